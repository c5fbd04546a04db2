/-
  Lemmas.
-/
import Derived.Test.YtnjkipnklpkaoaaGreatA46
import Derived.Lib.DecodeN
namespace Go.Proofs.YtnjkipnklpkaoaaGreat
open Go.RowKit
set_option maxRecDepth 20000
set_option maxHeartbeats 16000000
set_option linter.unusedSimpArgs false
set_option linter.unusedVariables false
def qco(esc:Int)(l:List UInt8):Option (List Nat):=if esc < -1∨255<esc∨4096<l.length then none else qav esc l
theorem lenB(s:ByteArray):s.data.toList.length=s.size:=by rw[zy];rfl
theorem dropB{s:ByteArray}{i:Nat}(h:i<s.size):s.data.toList.drop i=s[i] :: s.data.toList.drop (i+1):=by
 rw[zv (by rw[lenB];exact h)]
 rfl
theorem dropB2{s:ByteArray}{i:Nat}(h:i+1<s.size):s.data.toList.drop i=s[i] :: s[i+1] :: s.data.toList.drop (i+2):=by
 rw[dropB (i:=i) (by omega),dropB (i:=i+1) h]
theorem qo0{w:World}(s:ByteArray)(E:Int)(o:Option (List Nat))(ho:qco E s.data.toList=o) :
  Calls Tryz.prog 56 #[.string s,.int .i64 E] w fun r w'=>∃A c,r= .returned (.tuple #[.slice A (o.getD []).length c,.int .i64 (if o.isSome then 0 else 8)])∧Rd w' 0 w'.heap.size A c (iv (zu (o.getD [])))∧Below w.heap.size w w':=by
 unfold qco at ho
 rw[lenB] at ho
 by_cases hbad:E < -1∨255<E∨4096<s.size
 ·
  rw[if_pos hbad] at ho
  subst ho
  have hor:(decide (E < -1)=true)∨(decide (E < -1)=false∧decide (255<E)=true)∨(decide (E < -1)=false∧decide (255<E)=false∧decide ((4096:Int)<(s.size:Int))=true):=by
   by_cases h:E < -1
   ·
    exact Or.inl (qp h)
   ·
    by_cases h2:255<E
    ·
     exact Or.inr (Or.inl ⟨ql (by omega),qp h2⟩)
    ·
     exact Or.inr (Or.inr ⟨ql (by omega),ql (by omega),qp (by omega)⟩)
  clear hbad
  rcases hor with h1 | ⟨h1,h2⟩ | ⟨h1,h2,h3⟩
  all_goals
   go_enter Tryz.func56,Tryz.ntmps56
   go_wp2_with fail
   go_ret2
   exact⟨none,0,rfl,Rd.nil _ _ _,Below.refl _ _⟩
 ·
  rw[if_neg hbad] at ho
  have h1:¬E < -1:=by omega
  have h2:¬255<E:=by omega
  have h3:¬(4096:Int)<(s.size:Int):=by omega
  have hs:s.size≤4096:=by omega
  clear hbad
  go_enter Tryz.func56,Tryz.ntmps56
  go_wp2_with fail
  go_loopw [6,7] (fun x6 x7 wr=>∃(i:Nat) (zs:List Int) (A:Option Addr) (c:Nat),i≤s.size∧x7= .int .i64 (i:Int)∧x6= .slice A zs.length c∧zs.length≤i∧(qav E (s.data.toList.drop i)).map (fun p=>zs++zu p)=o.map zu∧
   wr.ownsRow w.heap.size 3 1 (.slice A zs.length c) zs.length (iv zs)∧Below w.heap.size w wr) (fun _ i _=>s.size-(intOf i).toNat)
  case atStart=>exact⟨0,[],none,0,qi _,rfl,rfl,qc _,by rw[←ho];simp,zh _ _ _ _,Below.refl _ _⟩
  case round =>
   obtain⟨i,zs,A,c,hi,rfl,rfl,hyi,hys,hown,hb⟩:=hrel
   have HYS:=qa hys
   have HO:=qa hown
   have HB:=qa hb
   have hsz:=hb.size
   clear hys hown hb
   by_cases hlt:i<s.size
   ·
    have ik:(i:Int)<(s.size:Int):=by omega
    have lk:s[i].toNat<256:=zp _
    by_cases he:(s[i].toNat:Int)=E
    ·
     by_cases hl:i+1=s.size
     ·
      have hno:o.map zu=none:=by
       rw[←HYS.out,dropB hlt,vj (by rw[lenB];omega),parse_last he]
       rfl
      have hno2:o=none:=by simpa using hno
      have hnl:(i:Int)+1=(s.size:Int):=by omega
      subst hno2
      have HE:=qa he
      go_wp2_with fail
      go_ret2
      exact⟨none,0,rfl,Rd.nil _ _ _,HB.out⟩
     ·
      have i1:(i:Int)+1<(s.size:Int):=by omega
      have inl:¬(i:Int)+1=(s.size:Int):=by omega
      have ly:s[i+1].toNat<256:=zp _
      have HP:Hid (qav E (s.data.toList.drop i)=(qav E (s.data.toList.drop (i+2))).map (s[i+1].toNat :: ·)):=by
       unfold Hid
       rw[dropB2 (by omega),parse_esc he]
      go_wp2_with (at_builtin;refine qa4 (v:= .slice A zs.length c) w.heap.size zs ((s[i+1].toNat:Int)) rfl _ _ rfl rfl rfl rfl (by rw[za _ _ _ _ rfl];rfl) (HO.out.alloc _) (by omega) (by simp;omega) ?_;intro A' c' w2 ho2 hg2)
      go_roundw
      case rel =>
       refine⟨i+2,zs++[((s[i+1].toNat:Int):Int)],A',c',by omega,by go_num,by rw[qd];rfl,by rw[qd,qt,je];omega,?_,ho2,(HB.out.alloc (by omega) _).grown hg2 (by simp;omega) (fun i hi=>(zk HO.out hi).1)⟩
       rw[←HYS.out,HP.out,Option.map_map]
       congr 1
       funext p
       simp[zu]
      case measure=>simp[intOf];omega
    ·
     have HP:Hid (qav E (s.data.toList.drop i)=(qav E (s.data.toList.drop (i+1))).map (sgn s[i] :: ·)):=by
      unfold Hid
      rw[dropB hlt,qq9 he]
     by_cases h37:s[i].toNat=37
     ·
      have HS:Hid (sgn s[i]=257):=by unfold Hid sgn;rw[if_pos h37]
      have j37:(s[i].toNat:Int)=37:=by omega
      rw[HS.out] at HP
      have hne:¬(37:Int)=E:=by omega
      go_wp2_with (at_builtin;refine qa4 (v:= .slice A zs.length c) w.heap.size zs (257) rfl _ _ rfl rfl rfl rfl (by rw[za _ _ _ _ rfl];rfl) (HO.out.alloc _) (by omega) (by simp;omega) ?_;intro A' c' w2 ho2 hg2)
      go_roundw
      case rel =>
       refine⟨i+1,zs++[(257:Int)],A',c',by omega,by go_num,by rw[qd];rfl,by rw[qd,qt,je];omega,?_,ho2,(HB.out.alloc (by omega) _).grown hg2 (by simp;omega) (fun i hi=>(zk HO.out hi).1)⟩
       rw[←HYS.out,HP.out,Option.map_map]
       congr 1
       funext p
       simp[zu]
      case measure=>simp[intOf];omega
     ·
      have j37:¬(s[i].toNat:Int)=37:=by omega
      by_cases h95:s[i].toNat=95
      ·
       have HS:Hid (sgn s[i]=256):=by unfold Hid sgn;rw[if_neg h37,if_pos h95]
       have j95:(s[i].toNat:Int)=95:=by omega
       have hne:¬(95:Int)=E:=by omega
       rw[HS.out] at HP
       go_wp2_with (at_builtin;refine qa4 (v:= .slice A zs.length c) w.heap.size zs (256) rfl _ _ rfl rfl rfl rfl (by rw[za _ _ _ _ rfl];rfl) (HO.out.alloc _) (by omega) (by simp;omega) ?_;intro A' c' w2 ho2 hg2)
       go_roundw
       case rel =>
        refine⟨i+1,zs++[(256:Int)],A',c',by omega,by go_num,by rw[qd];rfl,by rw[qd,qt,je];omega,?_,ho2,(HB.out.alloc (by omega) _).grown hg2 (by simp;omega) (fun i hi=>(zk HO.out hi).1)⟩
        rw[←HYS.out,HP.out,Option.map_map]
        congr 1
        funext p
        simp[zu]
       case measure=>simp[intOf];omega
      ·
       have HS:Hid (sgn s[i]=s[i].toNat):=by unfold Hid sgn;rw[if_neg h37,if_neg h95]
       have j95:¬(s[i].toNat:Int)=95:=by omega
       rw[HS.out] at HP
       go_wp2_with (at_builtin;refine qa4 (v:= .slice A zs.length c) w.heap.size zs ((s[i].toNat:Int)) rfl _ _ rfl rfl rfl rfl (by rw[za _ _ _ _ rfl];rfl) (HO.out.alloc _) (by omega) (by simp;omega) ?_;intro A' c' w2 ho2 hg2)
       go_roundw
       case rel =>
        refine⟨i+1,zs++[((s[i].toNat:Int):Int)],A',c',by omega,by go_num,by rw[qd];rfl,by rw[qd,qt,je];omega,?_,ho2,(HB.out.alloc (by omega) _).grown hg2 (by simp;omega) (fun i hi=>(zk HO.out hi).1)⟩
        rw[←HYS.out,HP.out,Option.map_map]
        congr 1
        funext p
        simp[zu]
       case measure=>simp[intOf];omega
   ·
    have ik:¬(i:Int)<(s.size:Int):=by omega
    have hy:=HYS.out
    rw[vj (by rw[lenB];omega)] at hy
    obtain⟨p,hp,hz⟩:∃p,o=some p∧zu p=zs:=by
     cases o with
     | none=>simp[qav] at hy
     | some p =>
      refine⟨p,rfl,?_⟩
      simp[qav] at hy
      rw[←hy]
      simp[zu]
    subst hp
    have HZ:=qa hz
    have HZL:Hid (zs.length=p.length):=by unfold Hid;rw[←hz,zj]
    clear hz hy
    go_wp2_with fail
    go_ret2
    refine⟨A,c,?_,?_,HB.out⟩
    ·
     show _=Ending.returned (.tuple #[.slice A p.length c,.int .i64 0])
     rw[←HZL.out]
     rfl
    ·
     show Rd wr 0 wr.heap.size A c (iv (zu p))
     rw[HZ.out]
     exact(Rd.of_own HO.out).wide (qi _) (qc _)
def qkz(kd cl ec co:Int)(s:ByteArray)(n:Nat):Prop:=cl=0∧ec=0∧co=0∧s.size=0∧1≤n∧n≤16∧(kd=14→n=1)
instance (kd cl ec co:Int) (s:ByteArray) (n:Nat):Decidable (qkz kd cl ec co s n):=by unfold qkz;infer_instance
def qky(kd cl co cols:Int)(s:ByteArray)(n:Nat):Prop:=n=0∧0≤cl∧cl<cols∧s.size≤4096∧0≤co∧co≤2∧(0<co→kd≤6)∧(kd=11→s.size=0)
instance (kd cl co cols:Int) (s:ByteArray) (n:Nat):Decidable (qky kd cl co cols s n):=by unfold qky;infer_instance
def uv(p:Pr)(cols deep:Int):Bool :=
 if deep<1∨p.kind<1∨14<p.kind then false
 else if 12≤p.kind then decide (qkz p.kind p.col p.esc p.coll p.s p.kids.length)&&p.kids.attach.all (fun q=>uv q.1 cols (deep-1))
 else decide (qky p.kind p.col p.coll cols p.s p.kids.length)&&if p.kind=10 then (qco p.esc p.s.data.toList).isSome else decide (p.esc=0)
termination_by SizeOf.sizeOf p
decreasing_by exact Pr.kid_lt q.2
theorem qmn(p:Pr)(cols deep:Int):uv p cols deep =
  if deep<1∨p.kind<1∨14<p.kind then false
  else if 12≤p.kind then decide (qkz p.kind p.col p.esc p.coll p.s p.kids.length)&&p.kids.all (fun q=>uv q cols (deep-1))
  else decide (qky p.kind p.col p.coll cols p.s p.kids.length)&&if p.kind=10 then (qco p.esc p.s.data.toList).isSome else decide (p.esc=0):=by
 rw[uv]
 congr 2
 congr 1
 rw[j5,jt,jt]
 exact⟨fun h q hq=>h ⟨q,hq⟩ (List.mem_attach _ _),fun h q _=>h q.1 q.2⟩
theorem str_nil{s:ByteArray}(h:s.size=0):s=⟨#[]⟩:=by
 have:s.data=#[]:=Array.eq_empty_of_size_eq_zero h
 cases s
 simp only at this
 rw[this]
theorem qop{s:ByteArray}(h:¬s.size=0):s.toList.isEmpty=false:=by
 rw[xi]
 intro e
 rw[jf] at e
 have:=congrArg List.length e
 rw[zy] at this
 exact h this
theorem rightp_any:∀(p:Pr) {w:World} {lo hi:Nat} {A:Option Addr} {c:Nat} (cols deep:Int),PrOk p→Kin w lo hi p.kids A c→hi≤w.heap.size→0≤deep→deep≤1000000→
  Calls Tryz.prog 23 #[.agg #[.int .i64 p.kind,.int .i64 p.col,.string p.s,.int .i64 p.esc,.int .i64 p.coll,.slice A p.kids.length c],.int .i64 cols,.int .i64 deep] w fun r w'=>r= .returned (.bool (uv p cols deep))∧Below w.heap.size w w' :=
 Pr.ind fun p ih w lo hi A c cols deep ho hk hhi hd1 hd2=>by
  have HIH:=qa ih
  have HK:=qa hk
  have hs63:=ho.s
  obtain⟨hl1,hl2⟩:=hk.len
  clear ih hk ho
  obtain⟨V,hV⟩:∃V,uv p cols deep=V:=⟨_,rfl⟩
  rw[hV]
  rw[qmn] at hV
  obtain⟨kd,hkd⟩:∃x,p.kind=x:=⟨_,rfl⟩
  obtain⟨cl,hcl⟩:∃x,p.col=x:=⟨_,rfl⟩
  obtain⟨ec,hec⟩:∃x,p.esc=x:=⟨_,rfl⟩
  obtain⟨co,hco⟩:∃x,p.coll=x:=⟨_,rfl⟩
  obtain⟨s,hs⟩:∃x,p.s=x:=⟨_,rfl⟩
  obtain⟨ks,hks⟩:∃x,p.kids=x:=⟨_,rfl⟩
  rw[hkd,hcl,hec,hco,hs,hks] at hV
  rw[hks] at HIH HK hl1
  rw[hs] at hs63
  rw[hkd,hcl,hec,hco,hs,hks]
  clear hkd hcl hec hco hs hks
  have HV:=qa hV
  clear hV
  obtain⟨w1,hw1⟩:∃w1,w.alloc (.cells #[.int .i64 kd,.int .i64 cl,.string s,.int .i64 ec,.int .i64 co,.slice A ks.length c] 55)=w1:=⟨_,rfl⟩
  have B1:Hid (Below w.heap.size w w1):=by unfold Hid;rw[←hw1];exact(Below.refl _ w).alloc (qc _) _
  have hb:j6 w1 w.heap.size 55 #[.int .i64 kd,.int .i64 cl,.string s,.int .i64 ec,.int .i64 co,.slice A ks.length c]:=by rw[←hw1];exact j6.new w _ _
  have hs1:w1.heap.size=w.heap.size+1:=by rw[←hw1];simp
  have HC5:Hid (∀W,Below w1.heap.size w1 W→W.cell? ⟨w.heap.size,5,none⟩=some (.slice A ks.length c)):=fun W hW=>(hb.below hW (by omega)).cell 5
  have b0:w1.cell? ⟨w.heap.size,0,none⟩=some (.int .i64 kd):=hb.cell 0
  have b1:w1.cell? ⟨w.heap.size,1,none⟩=some (.int .i64 cl):=hb.cell 1
  have b2:w1.cell? ⟨w.heap.size,2,none⟩=some (.string s):=hb.cell 2
  have b3:w1.cell? ⟨w.heap.size,3,none⟩=some (.int .i64 ec):=hb.cell 3
  have b4:w1.cell? ⟨w.heap.size,4,none⟩=some (.int .i64 co):=hb.cell 4
  have b5:w1.cell? ⟨w.heap.size,5,none⟩=some (.slice A ks.length c):=hb.cell 5
  have HK1:=qa (HK.out.kept B1.out hhi)
  clear hb HK
  by_cases n1:deep<1
  ·
   have HVV:Hid (V=false):=by unfold Hid;rw[←HV.out,if_pos (.inl n1)]
   go_enter Tryz.func23,Tryz.ntmps23
   go_wp2_with fail
   go_ret
   exact⟨zf HVV.out.symm,B1.out⟩
  ·
   by_cases n2:kd<1
   ·
    have HVV:Hid (V=false):=by unfold Hid;rw[←HV.out,if_pos (.inr (.inl n2))]
    go_enter Tryz.func23,Tryz.ntmps23
    go_wp2_with fail
    go_ret
    exact⟨zf HVV.out.symm,B1.out⟩
   ·
    by_cases n3:14<kd
    ·
     have HVV:Hid (V=false):=by unfold Hid;rw[←HV.out,if_pos (.inr (.inr n3))]
     go_enter Tryz.func23,Tryz.ntmps23
     go_wp2_with fail
     go_ret
     exact⟨zf HVV.out.symm,B1.out⟩
    ·
     have hn:¬(deep<1∨kd<1∨14<kd):=by omega
     by_cases g12:12≤kd
     ·
      have HVG:Hid ((decide (qkz kd cl ec co s ks.length)&&ks.all (fun q=>uv q cols (deep-1)))=V):=by unfold Hid;rw[←HV.out,if_neg hn,if_pos g12]
      have HNO:Hid (¬qkz kd cl ec co s ks.length→V=false):=fun h=>by rw[←HVG.out,ql h];rfl
      clear HV hn
      by_cases h1:¬cl=0
      ·
       have HVV:Hid (V=false):=HNO.out (fun h=>h1 h.1)
       have ecl:(cl != 0)=true:=by simpa using h1
       clear HVG HIH
       go_enter Tryz.func23,Tryz.ntmps23
       go_wp2_with fail
       go_ret
       exact⟨zf HVV.out.symm,B1.out⟩
      ·
       have z1:cl=0:=Decidable.not_not.1 h1
       subst z1
       clear h1
       by_cases h2:¬ec=0
       ·
        have HVV:Hid (V=false):=HNO.out (fun h=>h2 h.2.1)
        have eec:(ec != 0)=true:=by simpa using h2
        clear HVG HIH
        go_enter Tryz.func23,Tryz.ntmps23
        go_wp2_with fail
        go_ret
        exact⟨zf HVV.out.symm,B1.out⟩
       ·
        have z2:ec=0:=Decidable.not_not.1 h2
        subst z2
        clear h2
        by_cases h3:¬co=0
        ·
         have HVV:Hid (V=false):=HNO.out (fun h=>h3 h.2.2.1)
         have eco:(co != 0)=true:=by simpa using h3
         clear HVG HIH
         go_enter Tryz.func23,Tryz.ntmps23
         go_wp2_with fail
         go_ret
         exact⟨zf HVV.out.symm,B1.out⟩
        ·
         have z3:co=0:=Decidable.not_not.1 h3
         subst z3
         clear h3
         by_cases h4:¬s.size=0
         ·
          have HVV:Hid (V=false):=HNO.out (fun h=>h4 h.2.2.2.1)
          have es:=qop h4
          clear HVG HIH
          go_enter Tryz.func23,Tryz.ntmps23
          go_wp2_with fail
          go_ret
          exact⟨zf HVV.out.symm,B1.out⟩
         ·
          have z4:s.size=0:=Decidable.not_not.1 h4
          have z4':=str_nil z4
          subst z4'
          clear h4 z4
          by_cases h5:ks.length<1
          ·
           have HVV:Hid (V=false):=HNO.out (fun h=>by have:=h.2.2.2.2.1;omega)
           have i5:(ks.length:Int)<1:=by omega
           clear HVG HIH
           go_enter Tryz.func23,Tryz.ntmps23
           go_wp2_with fail
           go_ret
           exact⟨zf HVV.out.symm,B1.out⟩
          ·
           have i5:¬(ks.length:Int)<1:=by omega
           by_cases h6:16<ks.length
           ·
            have HVV:Hid (V=false):=HNO.out (fun h=>by have:=h.2.2.2.2.2.1;omega)
            have i6:(16:Int)<(ks.length:Int):=by omega
            clear HVG HIH
            go_enter Tryz.func23,Tryz.ntmps23
            go_wp2_with fail
            go_ret
            exact⟨zf HVV.out.symm,B1.out⟩
           ·
            have i6:¬(16:Int)<(ks.length:Int):=by omega
            by_cases h7:kd=14∧¬ks.length=1
            ·
             have HVV:Hid (V=false):=HNO.out (fun h=>h7.2 (h.2.2.2.2.2.2 h7.1))
             obtain⟨h8,h9⟩:=h7
             subst h8
             have e9:((ks.length:Int) != 1)=true:=by simpa using (show ¬(ks.length:Int)=1 by omega)
             clear HVG HIH
             go_enter Tryz.func23,Tryz.ntmps23
             go_wp2_with fail
             go_ret
             exact⟨zf HVV.out.symm,B1.out⟩
            ·
             have HVA:Hid (ks.all (fun q=>uv q cols (deep-1))=V):=by
              unfold Hid
              rw[←HVG.out,qp (show qkz kd 0 0 0 ⟨#[]⟩ ks.length from ⟨rfl,rfl,rfl,rfl,by omega,by omega,fun h=>Decidable.not_not.1 fun h'=>h7 ⟨h,h'⟩⟩)]
              rfl
             clear HNO HVG
             by_cases k14:kd=14
             ·
              subst k14
              have i1:(ks.length:Int)=1:=by
               have:ks.length=1:=Decidable.not_not.1 fun h'=>h7 ⟨rfl,h'⟩
               omega
              have e1:((ks.length:Int) != 1)=false:=by rw[i1];rfl
              clear h7 i1
              go_enter Tryz.func23,Tryz.ntmps23
              go_wp2_with fail
              go_loopw [7] (fun x7 wr=>∃k:Nat,k≤ks.length∧x7= .int .i64 (k:Int)∧(∀q∈ks.take k,uv q cols (deep-1)=true)∧Below w1.heap.size w1 wr) (fun x7 _=>ks.length-(intOf x7).toNat)
              case atStart=>exact⟨0,qi _,rfl,by simp,Below.refl _ _⟩
              case round =>
               clear b0 b1 b2 b3 b4 b5
               obtain⟨k,hk,rfl,ha,hb⟩:=hrel
               have HA:=qa ha
               have HB:=qa hb
               have hsz:=hb.size
               have hc5:=HC5.out wr hb
               clear ha hb
               by_cases hlt:k<ks.length
               ·
                have ik:(k:Int)<(ks.length:Int):=by omega
                obtain⟨b,off,kA,kc,rfl,hlo,hbh,c0,c1,c2,c3,c4,c5,hok,hkk⟩:=(HK1.out.kept HB.out (by omega)).six hlt
                have HQ:=qa (HIH.out ks[k] (qj hlt) (w:=wr) cols (deep-1) hok hkk (by omega) (by omega) (by omega))
                have HT:Hid (ks.take (k+1)=ks.take k++[ks[k]]):=qg hlt
                have HM:Hid (ks[k]∈ks):=qj hlt
                generalize ks[k]=q at *
                obtain⟨f,hf⟩:∃f,uv q cols (deep-1)=f:=⟨_,rfl⟩
                rw[hf] at HQ
                have HF:=qa hf
                clear hf hok hkk
                cases f with
                | true =>
                 have HA2:Hid (∀q∈ks.take (k+1),uv q cols (deep-1)=true):=fun x hx=>by
                  rw[HT.out] at hx
                  rcases zt.1 hx with hx | hx
                  ·
                   exact HA.out x hx
                  ·
                   rw[zo.1 hx];exact HF.out
                 go_wp2_with fail
                 refine HQ.out.mono ?_
                 rintro r w3 ⟨rfl,q3⟩
                 have HB3:=qa (yd HB.out q3 hsz)
                 clear q3
                 go_wp2_with fail
                 go_roundw
                 case rel=>exact⟨k+1,by omega,by go_num,HA2.out,HB3.out⟩
                 case measure=>simp[intOf] <;> omega
                | false =>
                 have HVV:Hid (V=false):=by
                  unfold Hid
                  rw[←HVA.out]
                  refine qeo.2 fun h => ?_
                  have:=jt.1 h q HM.out
                  rw[HF.out] at this
                  cases this
                 go_wp2_with fail
                 refine HQ.out.mono ?_
                 rintro r w3 ⟨rfl,q3⟩
                 go_wp2_with fail
                 go_ret
                 exact⟨zf HVV.out.symm,yd B1.out (yd HB.out q3 hsz) (by omega)⟩
               ·
                have ik:¬(k:Int)<(ks.length:Int):=by omega
                have HVV:Hid (V=true):=by
                 unfold Hid
                 rw[←HVA.out]
                 refine jt.2 fun x hx=>HA.out x ?_
                 rw[qo (by omega)]
                 exact hx
                go_wp2_with fail
                go_ret
                exact⟨zf HVV.out.symm,yd B1.out HB.out (by omega)⟩
             ·
              have e14:(kd==14)=false:=by rw[qr];exact k14
              clear h7
              go_enter Tryz.func23,Tryz.ntmps23
              go_wp2_with fail
              go_loopw [7] (fun x7 wr=>∃k:Nat,k≤ks.length∧x7= .int .i64 (k:Int)∧(∀q∈ks.take k,uv q cols (deep-1)=true)∧Below w1.heap.size w1 wr) (fun x7 _=>ks.length-(intOf x7).toNat)
              case atStart=>exact⟨0,qi _,rfl,by simp,Below.refl _ _⟩
              case round =>
               clear b0 b1 b2 b3 b4 b5
               obtain⟨k,hk,rfl,ha,hb⟩:=hrel
               have HA:=qa ha
               have HB:=qa hb
               have hsz:=hb.size
               have hc5:=HC5.out wr hb
               clear ha hb
               by_cases hlt:k<ks.length
               ·
                have ik:(k:Int)<(ks.length:Int):=by omega
                obtain⟨b,off,kA,kc,rfl,hlo,hbh,c0,c1,c2,c3,c4,c5,hok,hkk⟩:=(HK1.out.kept HB.out (by omega)).six hlt
                have HQ:=qa (HIH.out ks[k] (qj hlt) (w:=wr) cols (deep-1) hok hkk (by omega) (by omega) (by omega))
                have HT:Hid (ks.take (k+1)=ks.take k++[ks[k]]):=qg hlt
                have HM:Hid (ks[k]∈ks):=qj hlt
                generalize ks[k]=q at *
                obtain⟨f,hf⟩:∃f,uv q cols (deep-1)=f:=⟨_,rfl⟩
                rw[hf] at HQ
                have HF:=qa hf
                clear hf hok hkk
                cases f with
                | true =>
                 have HA2:Hid (∀q∈ks.take (k+1),uv q cols (deep-1)=true):=fun x hx=>by
                  rw[HT.out] at hx
                  rcases zt.1 hx with hx | hx
                  ·
                   exact HA.out x hx
                  ·
                   rw[zo.1 hx];exact HF.out
                 go_wp2_with fail
                 refine HQ.out.mono ?_
                 rintro r w3 ⟨rfl,q3⟩
                 have HB3:=qa (yd HB.out q3 hsz)
                 clear q3
                 go_wp2_with fail
                 go_roundw
                 case rel=>exact⟨k+1,by omega,by go_num,HA2.out,HB3.out⟩
                 case measure=>simp[intOf] <;> omega
                | false =>
                 have HVV:Hid (V=false):=by
                  unfold Hid
                  rw[←HVA.out]
                  refine qeo.2 fun h => ?_
                  have:=jt.1 h q HM.out
                  rw[HF.out] at this
                  cases this
                 go_wp2_with fail
                 refine HQ.out.mono ?_
                 rintro r w3 ⟨rfl,q3⟩
                 go_wp2_with fail
                 go_ret
                 exact⟨zf HVV.out.symm,yd B1.out (yd HB.out q3 hsz) (by omega)⟩
               ·
                have ik:¬(k:Int)<(ks.length:Int):=by omega
                have HVV:Hid (V=true):=by
                 unfold Hid
                 rw[←HVA.out]
                 refine jt.2 fun x hx=>HA.out x ?_
                 rw[qo (by omega)]
                 exact hx
                go_wp2_with fail
                go_ret
                exact⟨zf HVV.out.symm,yd B1.out HB.out (by omega)⟩
     ·
      have HVL:Hid ((decide (qky kd cl co cols s ks.length)&&if kd=10 then (qco ec s.data.toList).isSome else decide (ec=0))=V):=by unfold Hid;rw[←HV.out,if_neg hn,if_neg g12]
      have HNO:Hid (¬qky kd cl co cols s ks.length→V=false):=fun h=>by rw[←HVL.out,ql h];rfl
      have g12':decide (12≤kd)=false:=ql g12
      clear HV hn
      by_cases h1:0<ks.length
      ·
       have HVV:Hid (V=false):=HNO.out (fun h=>by have:=h.1;omega)
       have i1:(0:Int)<(ks.length:Int):=by omega
       clear HVL
       go_enter Tryz.func23,Tryz.ntmps23
       go_wp2_with fail
       go_ret
       exact⟨zf HVV.out.symm,B1.out⟩
      ·
       have i1:¬(0:Int)<(ks.length:Int):=by omega
       by_cases h2:cl<0
       ·
        have HVV:Hid (V=false):=HNO.out (fun h=>by have:=h.2.1;omega)
        clear HVL
        go_enter Tryz.func23,Tryz.ntmps23
        go_wp2_with fail
        go_ret
        exact⟨zf HVV.out.symm,B1.out⟩
       ·
        by_cases h3:cols≤cl
        ·
         have HVV:Hid (V=false):=HNO.out (fun h=>by have:=h.2.2.1;omega)
         clear HVL
         go_enter Tryz.func23,Tryz.ntmps23
         go_wp2_with fail
         go_ret
         exact⟨zf HVV.out.symm,B1.out⟩
        ·
         by_cases h4:4096<s.size
         ·
          have HVV:Hid (V=false):=HNO.out (fun h=>by have:=h.2.2.2.1;omega)
          have i4:(4096:Int)<(s.size:Int):=by omega
          clear HVL
          go_enter Tryz.func23,Tryz.ntmps23
          go_wp2_with fail
          go_ret
          exact⟨zf HVV.out.symm,B1.out⟩
         ·
          have i4:¬(4096:Int)<(s.size:Int):=by omega
          by_cases h5:co<0
          ·
           have HVV:Hid (V=false):=HNO.out (fun h=>by have:=h.2.2.2.2.1;omega)
           clear HVL
           go_enter Tryz.func23,Tryz.ntmps23
           go_wp2_with fail
           go_ret
           exact⟨zf HVV.out.symm,B1.out⟩
          ·
           by_cases h6:2<co
           ·
            have HVV:Hid (V=false):=HNO.out (fun h=>by have:=h.2.2.2.2.2.1;omega)
            clear HVL
            go_enter Tryz.func23,Tryz.ntmps23
            go_wp2_with fail
            go_ret
            exact⟨zf HVV.out.symm,B1.out⟩
           ·
            by_cases h7:0<co∧6<kd
            ·
             have HVV:Hid (V=false):=HNO.out (fun h=>by have:=h.2.2.2.2.2.2.1 h7.1;omega)
             obtain⟨h8,h9⟩:=h7
             clear HVL
             go_enter Tryz.func23,Tryz.ntmps23
             go_wp2_with fail
             go_ret
             exact⟨zf HVV.out.symm,B1.out⟩
            ·
             by_cases h8:kd=11∧¬s.size=0
             ·
              have HVV:Hid (V=false):=HNO.out (fun h=>h8.2 (h.2.2.2.2.2.2.2 h8.1))
              obtain⟨h9,h10⟩:=h8
              subst h9
              have hco:¬0<co:=fun h=>h7 ⟨h,by omega⟩
              have es:=qop h10
              clear HVL h7
              go_enter Tryz.func23,Tryz.ntmps23
              go_wp2_with fail
              go_ret
              exact⟨zf HVV.out.symm,B1.out⟩
             ·
              have hlf:qky kd cl co cols s ks.length:=⟨by omega,by omega,by omega,by omega,by omega,by omega,fun h=>by omega,fun h=>Decidable.not_not.1 fun h'=>h8 ⟨h,h'⟩⟩
              have HVE:Hid ((if kd=10 then (qco ec s.data.toList).isSome else decide (ec=0))=V):=by
               unfold Hid
               rw[←HVL.out,qp hlf,qbb]
              clear HNO HVL hlf
              have hcc:¬0<co∨(0<co∧¬6<kd):=by omega
              by_cases k10:kd=10
              ·
               subst k10
               have hco:¬0<co:=by omega
               clear hcc h7 h8
               have HPA:Hid ((qco ec s.data.toList).isSome=V):=HVE.out
               obtain⟨o,ho⟩:∃o,qco ec s.data.toList=o:=⟨_,rfl⟩
               have HP:=qa (fun w=>qo0 (w:=w) s ec o ho)
               rw[ho] at HPA
               clear ho HVE
               obtain⟨x8,hx8⟩:∃x:Int,(if o.isSome then (0:Int) else 8)=x:=⟨_,rfl⟩
               rw[hx8] at HP
               have HX:Hid ((x8==0)=V):=by
                unfold Hid
                rw[←HPA.out,←hx8]
                cases o.isSome <;> rfl
               clear hx8
               go_enter Tryz.func23,Tryz.ntmps23
               go_wp2_with fail
               refine(HP.out _).mono ?_
               rintro r w2 ⟨A2,c2,rfl, -,q2⟩
               go_wp2_with fail
               go_ret
               exact⟨zf HX.out,yd B1.out q2 (by omega)⟩
              ·
               by_cases k11:kd=11
               ·
                subst k11
                have hco:¬0<co:=by omega
                have hse:s.size=0:=Decidable.not_not.1 fun h'=>h8 ⟨rfl,h'⟩
                have hse2:=str_nil hse
                subst hse2
                clear hcc h7 h8 hse
                have HPE:Hid ((ec==0)=V):=by
                 unfold Hid
                 rw[←HVE.out,if_neg k10,j5,beq_iff_eq,decide_eq_true_eq]
                clear HVE
                go_enter Tryz.func23,Tryz.ntmps23
                go_wp2_with fail
                go_ret
                exact⟨zf HPE.out,B1.out⟩
               ·
                have e10:(kd==10)=false:=by rw[qr];exact k10
                have e11:(kd==11)=false:=by rw[qr];exact k11
                clear h7 h8
                rcases hcc with hcc | ⟨hcc,hcd⟩
                ·
                 have HPE:Hid ((ec==0)=V):=by
                  unfold Hid
                  rw[←HVE.out,if_neg k10,j5,beq_iff_eq,decide_eq_true_eq]
                 clear HVE
                 go_enter Tryz.func23,Tryz.ntmps23
                 go_wp2_with fail
                 go_ret
                 exact⟨zf HPE.out,B1.out⟩
                ·
                 have HPE:Hid ((ec==0)=V):=by
                  unfold Hid
                  rw[←HVE.out,if_neg k10,j5,beq_iff_eq,decide_eq_true_eq]
                 clear HVE
                 go_enter Tryz.func23,Tryz.ntmps23
                 go_wp2_with fail
                 go_ret
                 exact⟨zf HPE.out,B1.out⟩
def qf9(b:Nat):Prop:=128≤b∧b<192
instance (b:Nat):Decidable (qf9 b):=by unfold qf9;infer_instance
def ptN(n b0 b1 b2 b3:Nat):Nat×Nat :=
 if b0<128 then (b0,1)
 else if 194≤b0∧b0<224∧1<n∧qf9 b1 then ((b0-192)*64+b1-128,2)
 else if 224≤b0∧b0<240∧2<n∧qf9 b1∧qf9 b2∧2048≤(b0-224)*4096+(b1-128)*64+b2-128∧((b0-224)*4096+(b1-128)*64+b2-128<55296∨57343<(b0-224)*4096+(b1-128)*64+b2-128) then
  ((b0-224)*4096+(b1-128)*64+b2-128,3)
 else if 240≤b0∧b0<245∧3<n∧qf9 b1∧qf9 b2∧qf9 b3∧65536≤(b0-240)*262144+(b1-128)*4096+(b2-128)*64+b3-128∧(b0-240)*262144+(b1-128)*4096+(b2-128)*64+b3-128≤1114111 then
  ((b0-240)*262144+(b1-128)*4096+(b2-128)*64+b3-128,4)
 else (1114112+b0,1)
theorem ptN_size(n b0 b1 b2 b3:Nat):1≤(ptN n b0 b1 b2 b3).2∧(ptN n b0 b1 b2 b3).2≤4∧(1≤n→(ptN n b0 b1 b2 b3).2≤n):=by
 unfold ptN
 repeat' split
 all_goals (simp only;omega)
end Go.Proofs.YtnjkipnklpkaoaaGreat
