/-
  Lemmas.
-/
import Derived.Test.YtnjkipnklpkaoaaGreatA49
namespace Go.Proofs.YtnjkipnklpkaoaaGreat
open Go.RowKit
set_option maxRecDepth 20000
set_option maxHeartbeats 16000000
set_option linter.unusedSimpArgs false
set_option linter.unusedVariables false
theorem isByte_any{w:World}(z:Int):Calls Tryz.prog 184 #[.int .i64 z] w fun r w'=>r= .returned (.bool (decide (0≤z)&&decide (z≤255)))∧w=w':=by
 by_cases h0:z<0
 ·
  have hf:decide (0≤z)=false:=ql (by omega)
  rw[hf]
  go_enter Tryz.func184,Tryz.ntmps184
  go_wp2
  go_ret
  exact⟨rfl,rfl⟩
 ·
  have ht:decide (0≤z)=true:=qp (by omega)
  rw[ht]
  by_cases h1:z≤255
  ·
   have h2:decide (z≤255)=true:=qp h1
   rw[h2]
   go_enter Tryz.func184,Tryz.ntmps184
   go_wp2
   go_ret
   exact⟨rfl,rfl⟩
  ·
   have h2:decide (z≤255)=false:=ql h1
   rw[h2]
   go_enter Tryz.func184,Tryz.ntmps184
   go_wp2
   go_ret
   exact⟨rfl,rfl⟩
theorem sign_any{w:World}(x:UInt8):Calls Tryz.prog 187 #[.int .u8 (x.toNat:Int)] w fun r w'=>r= .returned (.int .i64 (sgn x:Int))∧w=w':=by
 have hx:x.toNat<256:=zp _
 have HS:Hid (sgn x=if x.toNat=37 then 257 else if x.toNat=95 then 256 else x.toNat):=by unfold Hid;rfl
 generalize sgn x=v at *
 generalize x.toNat=n at *
 by_cases h37:n=37
 ·
  have hv:v=257:=by rw[HS.out,if_pos h37]
  subst hv
  subst h37
  go_enter Tryz.func187,Tryz.ntmps187
  go_wp2
  go_ret
  exact⟨rfl,rfl⟩
 ·
  by_cases h95:n=95
  ·
   have hv:v=256:=by rw[HS.out,if_neg h37,if_pos h95]
   subst hv
   subst h95
   go_enter Tryz.func187,Tryz.ntmps187
   go_wp2
   go_ret
   exact⟨rfl,rfl⟩
  ·
   have hv:v=n:=by rw[HS.out,if_neg h37,if_neg h95]
   subst hv
   have i37:¬(v:Int)=37:=by omega
   have i95:¬(v:Int)=95:=by omega
   go_enter Tryz.func187,Tryz.ntmps187
   go_wp2
   go_ret
   exact⟨rfl,rfl⟩
theorem make_signs(w:World)(n:Nat)(h:n≤1000000000000):∃w1,(Instr.makeSlice 64 (.int .i64 0) (.int .i64 (n:Int))).run Tryz.prog w= .ok (.slice (some ⟨w.heap.size,0,none⟩) 0 n) w1∧
  w1.ownsRow w.heap.size 3 1 (.slice (some ⟨w.heap.size,0,none⟩) 0 n) 0 []∧w.grownBy w1 none:=by
 obtain⟨i0,hi0,hz0,hz1,hz2⟩:=info_parts Tryz.infoI64
 have:=run_make_own (P:=Tryz.prog) w w.heap.size 64 3 i0 _ 1 Tryz.underlying64 hi0 hz0 hz1 .i64 .i64 n (by rw[hz2];omega) (by simp only[maxLen];omega) (qc _)
 simpa using this
def qfj(esc:Int)(b:Bool)(l:List UInt8):Option (List Nat) :=
 if b=true then (match l with
  | []=>none
  | y :: t=>(qav esc t).map (y.toNat :: ·)) else qav esc l
theorem parseE_plain{esc:Int}{x:UInt8}(h:¬(x.toNat:Int)=esc)(t:List UInt8):qfj esc false (x :: t)=(qfj esc false t).map (sgn x :: ·):=by
 unfold qfj
 rw[if_neg (by simp),if_neg (by simp)]
 exact qq9 h t
theorem parseE_esc{esc:Int}{x:UInt8}(h:(x.toNat:Int)=esc)(t:List UInt8):qfj esc false (x :: t)=qfj esc true t:=by
 unfold qfj
 rw[if_neg (by simp),if_pos rfl]
 cases t with
 | nil=>exact parse_last h
 | cons y t=>exact parse_esc h y t
theorem parseE_next(esc:Int)(y:UInt8)(t:List UInt8):qfj esc true (y :: t)=(qfj esc false t).map (y.toNat :: ·):=rfl
theorem parse_map{zs:List Int}{o:Option (List Nat)}{r:Option (List Int)}{c:Nat}(h:(o.map (c :: ·)).map (fun p=>zs++zu p)=r):o.map (fun p=>(zs++[(c:Int)])++zu p)=r:=by
 rw[←h,Option.map_map]
 congr 1
 funext p
 simp[zu]
theorem lparse_any{w:World}(s:ByteArray)(E:Int)(o:Option (List Nat))(ho:qco E s.data.toList=o) :
  Calls Tryz.prog 149 #[.string s,.int .i64 E] w fun r w'=>∃A c,r= .returned (.tuple #[.slice A (o.getD []).length c,.int .i64 (if o.isSome then 0 else 8)])∧Rd w' 0 w'.heap.size A c (iv (zu (o.getD [])))∧Below w.heap.size w w':=by
 unfold qco at ho
 rw[lenB] at ho
 have HB:=fun w=>qa (isByte_any (w:=w) E)
 by_cases hbad:E < -1∨255<E∨4096<s.size
 ·
  rw[if_pos hbad] at ho
  subst ho
  by_cases hm:E = -1
  ·
   subst hm
   have h3:(4096:Int)<(s.size:Int):=by omega
   clear hbad
   go_enter Tryz.func149,Tryz.ntmps149
   go_wp2_with fail
   go_ret2
   exact⟨none,0,rfl,Rd.nil _ _ _,Below.refl _ _⟩
  ·
   by_cases hb:0≤E∧E≤255
   ·
    have hd:decide (0≤E)=true:=qp hb.1
    have hd2:decide (E≤255)=true:=qp hb.2
    have h3:(4096:Int)<(s.size:Int):=by omega
    rw[hd,hd2] at HB
    clear hbad
    go_enter Tryz.func149,Tryz.ntmps149
    go_wp2_with fail
    refine(HB _).out.mono ?_
    rintro r w1 ⟨rfl,rfl⟩
    go_wp2_with fail
    go_ret2
    exact⟨none,0,rfl,Rd.nil _ _ _,Below.refl _ _⟩
   ·
    have hd:(decide (0≤E)&&decide (E≤255))=false:=by
     rw[Bool.and_eq_false_iff,decide_eq_false_iff_not,decide_eq_false_iff_not]
     omega
    rw[hd] at HB
    clear hbad
    go_enter Tryz.func149,Tryz.ntmps149
    go_wp2_with fail
    refine(HB _).out.mono ?_
    rintro r w1 ⟨rfl,rfl⟩
    go_wp2_with fail
    go_ret2
    exact⟨none,0,rfl,Rd.nil _ _ _,Below.refl _ _⟩
 ·
  rw[if_neg hbad] at ho
  have h3:¬(4096:Int)<(s.size:Int):=by omega
  have hs:s.size≤4096:=by omega
  have HV:Hid ((qfj E false (s.data.toList.drop 0)).map (fun p=>([]:List Int)++zu p)=o.map zu):=by unfold Hid;rw[←ho];rfl
  clear ho
  obtain⟨w2,hmake,ho2,hg2⟩:=make_signs w s.size (by omega)
  have HO2:=qa ho2
  have HB2:=qa ((Below.refl _ w).grown hg2 (qc _) (by simp):Below w.heap.size w w2)
  clear ho2 hg2
  have key:(E != -1)=false∨(¬E = -1∧(decide (0≤E)&&decide (E≤255))=true):=by
   by_cases hm:E = -1
   ·
    exact Or.inl (by rw[hm];rfl)
   ·
    exact Or.inr ⟨hm,by rw[jl,decide_eq_true_eq,decide_eq_true_eq];omega⟩
  clear hbad
  rcases key with hm | ⟨hm,hd⟩
  all_goals
   try rw[hd] at HB
   go_enter Tryz.func149,Tryz.ntmps149
   go_wp2_with fail
   try
    refine(HB _).out.mono ?_
    rintro r w1 ⟨rfl,rfl⟩
    go_wp2_with fail
   clear hmake
   go_loopw [6,7,26] (fun x6 x7 x26 wr=>∃(i:Nat) (b:Bool) (zs:List Int) (A:Option Addr) (c:Nat),i≤s.size∧x26= .int .i64 (i:Int)∧x7= .bool b∧x6= .slice A zs.length c∧zs.length≤i∧(qfj E b (s.data.toList.drop i)).map (fun p=>zs++zu p)=o.map zu∧
    wr.ownsRow w.heap.size 3 1 (.slice A zs.length c) zs.length (iv zs)∧Below w.heap.size w wr) (fun _ _ i _=>s.size-(intOf i).toNat)
   case atStart=>exact⟨0,false,[],_,_,qi _,rfl,rfl,rfl,qc _,HV.out,HO2.out,HB2.out⟩
   case round =>
    obtain⟨i,b,zs,A,c,hi,rfl,rfl,rfl,hyi,hys,hown,hb⟩:=hrel
    have HYS:=qa hys
    have HO:=qa hown
    have HBW:=qa hb
    have hsz:=hb.size
    clear hys hown hb
    by_cases hlt:i<s.size
    ·
     have ik:(i:Int)<(s.size:Int):=by omega
     have HDB:=qa (dropB hlt)
     have HSG:=fun w=>qa (sign_any (w:=w) s[i])
     have lx:s[i].toNat<256:=zp _
     cases b
     ·
      by_cases he:(s[i].toNat:Int)=E
      ·
       have HF:Hid ((qfj E true (s.data.toList.drop (i+1))).map (fun p=>zs++zu p)=o.map zu):=by
        unfold Hid
        rw[←parseE_esc he,←HDB.out]
        exact HYS.out
       have hb:((s[i].toNat:Int)==E)=true:=by rw[he];exact beq_self_eq_true _
       clear he
       go_wp2_with fail
       go_roundw
       case rel=>exact⟨i+1,true,zs,A,c,by omega,by go_num,rfl,rfl,by omega,HF.out,HO.out,HBW.out⟩
       case measure=>simp[intOf] <;> omega
      ·
       have HF:Hid (((qfj E false (s.data.toList.drop (i+1))).map (sgn s[i] :: ·)).map (fun p=>zs++zu p)=o.map zu):=by
        unfold Hid
        rw[←parseE_plain he,←HDB.out]
        exact HYS.out
       generalize sgn s[i]=v at *
       have hb:((s[i].toNat:Int)==E)=false:=by rw[qr];exact he
       go_wp2_with fail
       refine(HSG _).out.mono ?_
       rintro r w4 ⟨rfl,rfl⟩
       go_wp2_with (at_builtin;refine qa4 (v:= .slice A zs.length c) w.heap.size zs ((v:Int)) rfl _ _ rfl rfl rfl rfl (by rw[za _ _ _ _ rfl];rfl) (HO.out.alloc _) (by omega) (by simp;omega) ?_;intro A' c' w3 ho3 hg3)
       go_roundw
       case rel=>exact⟨i+1,false,zs++[(v:Int)],A',c',by omega,by go_num,rfl,by rw[qd];rfl,by rw[qd,qt,je];omega,parse_map HF.out,ho3,(HBW.out.alloc (by omega) _).grown hg3 (by simp;omega) (fun q hq=>(zk HO.out hq).1)⟩
       case measure=>simp[intOf] <;> omega
     ·
      have HF:Hid (((qfj E false (s.data.toList.drop (i+1))).map (s[i].toNat :: ·)).map (fun p=>zs++zu p)=o.map zu):=by
       unfold Hid
       rw[←parseE_next,←HDB.out]
       exact HYS.out
      go_wp2_with (at_builtin;refine qa4 (v:= .slice A zs.length c) w.heap.size zs ((s[i].toNat:Int)) rfl _ _ rfl rfl rfl rfl (by rw[za _ _ _ _ rfl];rfl) (HO.out.alloc _) (by omega) (by simp;omega) ?_;intro A' c' w3 ho3 hg3)
      go_roundw
      case rel=>exact⟨i+1,false,zs++[(s[i].toNat:Int)],A',c',by omega,by go_num,rfl,by rw[qd];rfl,by rw[qd,qt,je];omega,parse_map HF.out,ho3,(HBW.out.alloc (by omega) _).grown hg3 (by simp;omega) (fun q hq=>(zk HO.out hq).1)⟩
      case measure=>simp[intOf] <;> omega
    ·
     have ik:¬(i:Int)<(s.size:Int):=by omega
     have hy:=HYS.out
     rw[vj (by rw[lenB];omega)] at hy
     cases b
     ·
      obtain⟨p,hp,hz⟩:∃p,o=some p∧zu p=zs:=by
       cases o with
       | none=>simp[qfj,qav] at hy
       | some p =>
        refine⟨p,rfl,?_⟩
        simp[qfj,qav] at hy
        rw[←hy]
        simp[zu]
      subst hp
      have HZ:=qa hz
      have HZL:Hid (zs.length=p.length):=by unfold Hid;rw[←hz,zj]
      clear hz hy
      go_wp2_with fail
      go_ret2
      refine⟨A,c,?_,?_,HBW.out⟩
      ·
       show _=Ending.returned (.tuple #[.slice A p.length c,.int .i64 0])
       rw[←HZL.out]
       rfl
      ·
       show Rd wr 0 wr.heap.size A c (iv (zu p))
       rw[HZ.out]
       exact(Rd.of_own HO.out).wide (qi _) (qc _)
     ·
      have ho:o=none:=by
       cases o with
       | none=>rfl
       | some p=>simp[qfj] at hy
      subst ho
      clear hy
      go_wp2_with fail
      go_ret2
      exact⟨none,0,rfl,Rd.nil _ _ _,HBW.out⟩
theorem signs_any{w:World}(kd cl ec co:Int)(s:ByteArray)(n:Nat){A:Option Addr}{c:Nat}{ns:List Nat}(h:qco ec s.data.toList=some ns) :
  Calls Tryz.prog 102 #[.agg #[.int .i64 kd,.int .i64 cl,.string s,.int .i64 ec,.int .i64 co,.slice A n c]] w fun r w'=>∃A' c',r= .returned (.slice A' ns.length c')∧Rd w' 0 w'.heap.size A' c' (iv (zu ns))∧Below w.heap.size w w':=by
 obtain⟨w1,hw1⟩:∃w1,w.alloc (.cells #[.int .i64 kd,.int .i64 cl,.string s,.int .i64 ec,.int .i64 co,.slice A n c] 55)=w1:=⟨_,rfl⟩
 have B1:Hid (Below w.heap.size w w1):=by unfold Hid;rw[←hw1];exact(Below.refl _ w).alloc (qc _) _
 have hb:j6 w1 w.heap.size 55 #[.int .i64 kd,.int .i64 cl,.string s,.int .i64 ec,.int .i64 co,.slice A n c]:=by rw[←hw1];exact j6.new w _ _
 have hs1:w1.heap.size=w.heap.size+1:=by rw[←hw1];simp
 have b0:w1.cell? ⟨w.heap.size,0,none⟩=some (.int .i64 kd):=hb.cell 0
 have b1:w1.cell? ⟨w.heap.size,1,none⟩=some (.int .i64 cl):=hb.cell 1
 have b2:w1.cell? ⟨w.heap.size,2,none⟩=some (.string s):=hb.cell 2
 have b3:w1.cell? ⟨w.heap.size,3,none⟩=some (.int .i64 ec):=hb.cell 3
 have b4:w1.cell? ⟨w.heap.size,4,none⟩=some (.int .i64 co):=hb.cell 4
 have b5:w1.cell? ⟨w.heap.size,5,none⟩=some (.slice A n c):=hb.cell 5
 clear hb
 have HP:=qa (lparse_any (w:=w1) s ec (some ns) h)
 clear h
 go_enter Tryz.func102,Tryz.ntmps102
 go_wp2_with fail
 refine HP.out.mono ?_
 rintro r w2 ⟨A2,c2,rfl,hr,q2⟩
 have HR:=qa hr
 have HB2:=qa (qz B1.out q2 (by omega))
 clear hr q2
 go_wp2_with fail
 go_ret
 exact⟨A2,c2,rfl,HR.out,HB2.out⟩
def nestP(cl ec co:Int)(s:ByteArray)(n:Nat)(most:Int):Bool:=decide (cl=0∧s.size=0∧ec=0∧co=0∧0<n∧(n:Int)≤most)
theorem nests_any{w:World}(kd cl ec co:Int)(s:ByteArray)(n:Nat){A:Option Addr}{c:Nat}(most:Int)(hn:n≤9223372036854775807) :
  Calls Tryz.prog 140 #[.agg #[.int .i64 kd,.int .i64 cl,.string s,.int .i64 ec,.int .i64 co,.slice A n c],.int .i64 most] w fun r w'=>r= .returned (.bool (nestP cl ec co s n most))∧Below w.heap.size w w':=by
 obtain⟨w1,hw1⟩:∃w1,w.alloc (.cells #[.int .i64 kd,.int .i64 cl,.string s,.int .i64 ec,.int .i64 co,.slice A n c] 55)=w1:=⟨_,rfl⟩
 have B1:Hid (Below w.heap.size w w1):=by unfold Hid;rw[←hw1];exact(Below.refl _ w).alloc (qc _) _
 have hb:j6 w1 w.heap.size 55 #[.int .i64 kd,.int .i64 cl,.string s,.int .i64 ec,.int .i64 co,.slice A n c]:=by rw[←hw1];exact j6.new w _ _
 have hs1:w1.heap.size=w.heap.size+1:=by rw[←hw1];simp
 have b0:w1.cell? ⟨w.heap.size,0,none⟩=some (.int .i64 kd):=hb.cell 0
 have b1:w1.cell? ⟨w.heap.size,1,none⟩=some (.int .i64 cl):=hb.cell 1
 have b2:w1.cell? ⟨w.heap.size,2,none⟩=some (.string s):=hb.cell 2
 have b3:w1.cell? ⟨w.heap.size,3,none⟩=some (.int .i64 ec):=hb.cell 3
 have b4:w1.cell? ⟨w.heap.size,4,none⟩=some (.int .i64 co):=hb.cell 4
 have b5:w1.cell? ⟨w.heap.size,5,none⟩=some (.slice A n c):=hb.cell 5
 clear hb
 obtain⟨V,hV⟩:∃V,nestP cl ec co s n most=V:=⟨_,rfl⟩
 rw[hV]
 rw[nestP] at hV
 have HV:=qa hV
 clear hV
 by_cases h1:cl=0
 ·
  subst h1
  by_cases h2:s.size=0
  ·
   have z2:=str_nil h2
   subst z2
   by_cases h3:ec=0
   ·
    subst h3
    by_cases h4:co=0
    ·
     subst h4
     by_cases h5:0<n
     ·
      have e5:(0:Int)<(n:Int):=by omega
      have d5:decide ((0:Int)<(n:Int))=true:=qp e5
      by_cases h6:(n:Int)≤most
      ·
       have d6:decide ((n:Int)≤most)=true:=qp h6
       have HVV:Hid (V=true):=by unfold Hid;rw[←HV.out];exact qp ⟨rfl,rfl,rfl,rfl,h5,h6⟩
       clear HV
       go_enter Tryz.func140,Tryz.ntmps140
       go_wp2_with fail
       go_ret
       exact⟨zf HVV.out.symm,B1.out⟩
      ·
       have d6:decide ((n:Int)≤most)=false:=ql h6
       have HVV:Hid (V=false):=by unfold Hid;rw[←HV.out];exact ql fun h=>h6 (h.2.2.2.2.2)
       clear HV
       go_enter Tryz.func140,Tryz.ntmps140
       go_wp2_with fail
       go_ret
       exact⟨zf HVV.out.symm,B1.out⟩
     ·
      have e5:¬(0:Int)<(n:Int):=by omega
      have d5:decide ((0:Int)<(n:Int))=false:=ql e5
      have HVV:Hid (V=false):=by unfold Hid;rw[←HV.out];exact ql fun h=>h5 (h.2.2.2.2.1)
      clear HV
      go_enter Tryz.func140,Tryz.ntmps140
      go_wp2_with fail
      go_ret
      exact⟨zf HVV.out.symm,B1.out⟩
    ·
     have e4:(co==0)=false:=qr.2 h4
     have HVV:Hid (V=false):=by unfold Hid;rw[←HV.out];exact ql fun h=>h4 (h.2.2.2.1)
     clear HV
     go_enter Tryz.func140,Tryz.ntmps140
     go_wp2_with fail
     go_ret
     exact⟨zf HVV.out.symm,B1.out⟩
   ·
    have e3:(ec==0)=false:=qr.2 h3
    have HVV:Hid (V=false):=by unfold Hid;rw[←HV.out];exact ql fun h=>h3 (h.2.2.1)
    clear HV
    go_enter Tryz.func140,Tryz.ntmps140
    go_wp2_with fail
    go_ret
    exact⟨zf HVV.out.symm,B1.out⟩
  ·
   have e2:=qop h2
   have HVV:Hid (V=false):=by unfold Hid;rw[←HV.out];exact ql fun h=>h2 (h.2.1)
   clear HV
   go_enter Tryz.func140,Tryz.ntmps140
   go_wp2_with fail
   go_ret
   exact⟨zf HVV.out.symm,B1.out⟩
 ·
  have e1:(cl==0)=false:=qr.2 h1
  have HVV:Hid (V=false):=by unfold Hid;rw[←HV.out];exact ql fun h=>h1 (h.1)
  clear HV
  go_enter Tryz.func140,Tryz.ntmps140
  go_wp2_with fail
  go_ret
  exact⟨zf HVV.out.symm,B1.out⟩
def asksP(kd ec co:Int)(s:ByteArray):Bool :=
 if kd=10 then (qco ec s.data.toList).isSome&&decide (co=0)
 else decide (s.size≤4096∧ec=0)&&(if 1≤kd∧kd≤6 then decide (0≤co∧co≤2) else if 7≤kd∧kd≤9 then decide (co=0) else decide (kd=11∧co=0∧s.size=0))
theorem asks_any{w:World}(kd cl ec co:Int)(s:ByteArray)(n:Nat){A:Option Addr}{c:Nat}(hs:s.size≤9223372036854775807) :
  Calls Tryz.prog 142 #[.agg #[.int .i64 kd,.int .i64 cl,.string s,.int .i64 ec,.int .i64 co,.slice A n c]] w fun r w'=>r= .returned (.bool (asksP kd ec co s))∧Below w.heap.size w w':=by
 obtain⟨w1,hw1⟩:∃w1,w.alloc (.cells #[.int .i64 kd,.int .i64 cl,.string s,.int .i64 ec,.int .i64 co,.slice A n c] 55)=w1:=⟨_,rfl⟩
 have B1:Hid (Below w.heap.size w w1):=by unfold Hid;rw[←hw1];exact(Below.refl _ w).alloc (qc _) _
 have hb:j6 w1 w.heap.size 55 #[.int .i64 kd,.int .i64 cl,.string s,.int .i64 ec,.int .i64 co,.slice A n c]:=by rw[←hw1];exact j6.new w _ _
 have hs1:w1.heap.size=w.heap.size+1:=by rw[←hw1];simp
 have b0:w1.cell? ⟨w.heap.size,0,none⟩=some (.int .i64 kd):=hb.cell 0
 have b1:w1.cell? ⟨w.heap.size,1,none⟩=some (.int .i64 cl):=hb.cell 1
 have b2:w1.cell? ⟨w.heap.size,2,none⟩=some (.string s):=hb.cell 2
 have b3:w1.cell? ⟨w.heap.size,3,none⟩=some (.int .i64 ec):=hb.cell 3
 have b4:w1.cell? ⟨w.heap.size,4,none⟩=some (.int .i64 co):=hb.cell 4
 have b5:w1.cell? ⟨w.heap.size,5,none⟩=some (.slice A n c):=hb.cell 5
 clear hb
 obtain⟨V,hV⟩:∃V,asksP kd ec co s=V:=⟨_,rfl⟩
 rw[hV]
 rw[asksP] at hV
 by_cases h10:kd=10
 ·
  subst h10
  rw[if_pos rfl] at hV
  obtain⟨o,ho⟩:∃o,qco ec s.data.toList=o:=⟨_,rfl⟩
  have HP:=qa (lparse_any (w:=w1) s ec o ho)
  rw[ho] at hV
  clear ho
  cases o with
  | none =>
   have HVV:Hid (V=false):=by unfold Hid;rw[←hV];rfl
   clear hV
   have HP2:Hid (Calls Tryz.prog 149 #[.string s,.int .i64 ec] w1 fun r w'=>∃A c,r= .returned (.tuple #[.slice A 0 c,.int .i64 8])∧Rd w' 0 w'.heap.size A c (iv (zu []))∧Below w1.heap.size w1 w'):=HP.out
   clear HP
   go_enter Tryz.func142,Tryz.ntmps142
   go_wp2_with fail
   refine HP2.out.mono ?_
   rintro r w2 ⟨A2,c2,rfl,hr,q2⟩
   have HB2:=qa (qz B1.out q2 (by omega))
   have hb4:w2.cell? ⟨w.heap.size,4,none⟩=some (.int .i64 co):=(q2.cell (by simp only;omega)).trans b4
   clear q2 hr
   go_wp2_with fail
   go_ret
   exact⟨zf HVV.out.symm,HB2.out⟩
  | some ns =>
   have HP2:Hid (Calls Tryz.prog 149 #[.string s,.int .i64 ec] w1 fun r w'=>∃A c,r= .returned (.tuple #[.slice A ns.length c,.int .i64 0])∧Rd w' 0 w'.heap.size A c (iv (zu ns))∧Below w1.heap.size w1 w'):=HP.out
   clear HP
   obtain⟨u,hu⟩:∃u,decide (co=0)=u:=⟨_,rfl⟩
   have HVV:Hid (V=u):=by unfold Hid;rw[←hV,hu];rfl
   have eu:(co==0)=u:=by rw[←hu];exact rfl
   clear hV hu
   go_enter Tryz.func142,Tryz.ntmps142
   go_wp2_with fail
   refine HP2.out.mono ?_
   rintro r w2 ⟨A2,c2,rfl,hr,q2⟩
   have HB2:=qa (qz B1.out q2 (by omega))
   have hb4:w2.cell? ⟨w.heap.size,4,none⟩=some (.int .i64 co):=(q2.cell (by simp only;omega)).trans b4
   clear q2 hr
   go_wp2_with fail
   go_ret
   exact⟨zf HVV.out.symm,HB2.out⟩
 ·
  rw[if_neg h10] at hV
  have HV:=qa hV
  clear hV
  have e10:(kd==10)=false:=qr.2 h10
  by_cases hz:s.size≤4096
  ·
   have dz:¬(4096:Int)<(s.size:Int):=by omega
   have dz2:decide ((4096:Int)<(s.size:Int))=false:=ql dz
   by_cases he:ec=0
   ·
    subst he
    rw[qp (show s.size≤4096∧(0:Int)=0 from ⟨hz,rfl⟩),qbb] at HV
    rcases(show kd=1∨kd=2∨kd=3∨kd=4∨kd=5∨kd=6∨kd=7∨kd=8∨kd=9∨kd=11∨(kd<1∨11<kd) by omega) with hkd | hkd | hkd | hkd | hkd | hkd | hkd | hkd | hkd | hkd | hkd
    ·
     subst hkd
     rw[if_pos (show(1:Int)≤1∧(1:Int)≤6 from ⟨by decide,by decide⟩)] at HV
     by_cases c0:0≤co
     ·
      have d0:decide (0≤co)=true:=qp c0
      obtain⟨u,hu⟩:∃u,decide (co≤2)=u:=⟨_,rfl⟩
      have HVV:Hid (V=u):=by unfold Hid;rw[←HV.out,←hu,decide_eq_decide];exact⟨fun h=>h.2,fun h=>⟨c0,h⟩⟩
      clear HV
      go_enter Tryz.func142,Tryz.ntmps142
      go_wp2_with fail
      go_ret
      exact⟨zf HVV.out.symm,B1.out⟩
     ·
      have d0:decide (0≤co)=false:=ql c0
      have HVV:Hid (V=false):=by unfold Hid;rw[←HV.out];exact ql fun h=>c0 h.1
      clear HV
      go_enter Tryz.func142,Tryz.ntmps142
      go_wp2_with fail
      go_ret
      exact⟨zf HVV.out.symm,B1.out⟩
    ·
     subst hkd
     rw[if_pos (show(1:Int)≤2∧(2:Int)≤6 from ⟨by decide,by decide⟩)] at HV
     by_cases c0:0≤co
     ·
      have d0:decide (0≤co)=true:=qp c0
      obtain⟨u,hu⟩:∃u,decide (co≤2)=u:=⟨_,rfl⟩
      have HVV:Hid (V=u):=by unfold Hid;rw[←HV.out,←hu,decide_eq_decide];exact⟨fun h=>h.2,fun h=>⟨c0,h⟩⟩
      clear HV
      go_enter Tryz.func142,Tryz.ntmps142
      go_wp2_with fail
      go_ret
      exact⟨zf HVV.out.symm,B1.out⟩
     ·
      have d0:decide (0≤co)=false:=ql c0
      have HVV:Hid (V=false):=by unfold Hid;rw[←HV.out];exact ql fun h=>c0 h.1
      clear HV
      go_enter Tryz.func142,Tryz.ntmps142
      go_wp2_with fail
      go_ret
      exact⟨zf HVV.out.symm,B1.out⟩
    ·
     subst hkd
     rw[if_pos (show(1:Int)≤3∧(3:Int)≤6 from ⟨by decide,by decide⟩)] at HV
     by_cases c0:0≤co
     ·
      have d0:decide (0≤co)=true:=qp c0
      obtain⟨u,hu⟩:∃u,decide (co≤2)=u:=⟨_,rfl⟩
      have HVV:Hid (V=u):=by unfold Hid;rw[←HV.out,←hu,decide_eq_decide];exact⟨fun h=>h.2,fun h=>⟨c0,h⟩⟩
      clear HV
      go_enter Tryz.func142,Tryz.ntmps142
      go_wp2_with fail
      go_ret
      exact⟨zf HVV.out.symm,B1.out⟩
     ·
      have d0:decide (0≤co)=false:=ql c0
      have HVV:Hid (V=false):=by unfold Hid;rw[←HV.out];exact ql fun h=>c0 h.1
      clear HV
      go_enter Tryz.func142,Tryz.ntmps142
      go_wp2_with fail
      go_ret
      exact⟨zf HVV.out.symm,B1.out⟩
    ·
     subst hkd
     rw[if_pos (show(1:Int)≤4∧(4:Int)≤6 from ⟨by decide,by decide⟩)] at HV
     by_cases c0:0≤co
     ·
      have d0:decide (0≤co)=true:=qp c0
      obtain⟨u,hu⟩:∃u,decide (co≤2)=u:=⟨_,rfl⟩
      have HVV:Hid (V=u):=by unfold Hid;rw[←HV.out,←hu,decide_eq_decide];exact⟨fun h=>h.2,fun h=>⟨c0,h⟩⟩
      clear HV
      go_enter Tryz.func142,Tryz.ntmps142
      go_wp2_with fail
      go_ret
      exact⟨zf HVV.out.symm,B1.out⟩
     ·
      have d0:decide (0≤co)=false:=ql c0
      have HVV:Hid (V=false):=by unfold Hid;rw[←HV.out];exact ql fun h=>c0 h.1
      clear HV
      go_enter Tryz.func142,Tryz.ntmps142
      go_wp2_with fail
      go_ret
      exact⟨zf HVV.out.symm,B1.out⟩
    ·
     subst hkd
     rw[if_pos (show(1:Int)≤5∧(5:Int)≤6 from ⟨by decide,by decide⟩)] at HV
     by_cases c0:0≤co
     ·
      have d0:decide (0≤co)=true:=qp c0
      obtain⟨u,hu⟩:∃u,decide (co≤2)=u:=⟨_,rfl⟩
      have HVV:Hid (V=u):=by unfold Hid;rw[←HV.out,←hu,decide_eq_decide];exact⟨fun h=>h.2,fun h=>⟨c0,h⟩⟩
      clear HV
      go_enter Tryz.func142,Tryz.ntmps142
      go_wp2_with fail
      go_ret
      exact⟨zf HVV.out.symm,B1.out⟩
     ·
      have d0:decide (0≤co)=false:=ql c0
      have HVV:Hid (V=false):=by unfold Hid;rw[←HV.out];exact ql fun h=>c0 h.1
      clear HV
      go_enter Tryz.func142,Tryz.ntmps142
      go_wp2_with fail
      go_ret
      exact⟨zf HVV.out.symm,B1.out⟩
    ·
     subst hkd
     rw[if_pos (show(1:Int)≤6∧(6:Int)≤6 from ⟨by decide,by decide⟩)] at HV
     by_cases c0:0≤co
     ·
      have d0:decide (0≤co)=true:=qp c0
      obtain⟨u,hu⟩:∃u,decide (co≤2)=u:=⟨_,rfl⟩
      have HVV:Hid (V=u):=by unfold Hid;rw[←HV.out,←hu,decide_eq_decide];exact⟨fun h=>h.2,fun h=>⟨c0,h⟩⟩
      clear HV
      go_enter Tryz.func142,Tryz.ntmps142
      go_wp2_with fail
      go_ret
      exact⟨zf HVV.out.symm,B1.out⟩
     ·
      have d0:decide (0≤co)=false:=ql c0
      have HVV:Hid (V=false):=by unfold Hid;rw[←HV.out];exact ql fun h=>c0 h.1
      clear HV
      go_enter Tryz.func142,Tryz.ntmps142
      go_wp2_with fail
      go_ret
      exact⟨zf HVV.out.symm,B1.out⟩
    ·
     subst hkd
     rw[if_neg (show ¬((1:Int)≤7∧(7:Int)≤6) by decide),if_pos (show(7:Int)≤7∧(7:Int)≤9 from ⟨by decide,by decide⟩)] at HV
     obtain⟨u,hu⟩:∃u,decide (co=0)=u:=⟨_,rfl⟩
     have HVV:Hid (V=u):=by unfold Hid;rw[←HV.out,hu]
     have eu:(co==0)=u:=by rw[←hu];exact rfl
     clear HV hu
     go_enter Tryz.func142,Tryz.ntmps142
     go_wp2_with fail
     go_ret
     exact⟨zf HVV.out.symm,B1.out⟩
    ·
     subst hkd
     rw[if_neg (show ¬((1:Int)≤8∧(8:Int)≤6) by decide),if_pos (show(7:Int)≤8∧(8:Int)≤9 from ⟨by decide,by decide⟩)] at HV
     obtain⟨u,hu⟩:∃u,decide (co=0)=u:=⟨_,rfl⟩
     have HVV:Hid (V=u):=by unfold Hid;rw[←HV.out,hu]
     have eu:(co==0)=u:=by rw[←hu];exact rfl
     clear HV hu
     go_enter Tryz.func142,Tryz.ntmps142
     go_wp2_with fail
     go_ret
     exact⟨zf HVV.out.symm,B1.out⟩
    ·
     subst hkd
     rw[if_neg (show ¬((1:Int)≤9∧(9:Int)≤6) by decide),if_pos (show(7:Int)≤9∧(9:Int)≤9 from ⟨by decide,by decide⟩)] at HV
     obtain⟨u,hu⟩:∃u,decide (co=0)=u:=⟨_,rfl⟩
     have HVV:Hid (V=u):=by unfold Hid;rw[←HV.out,hu]
     have eu:(co==0)=u:=by rw[←hu];exact rfl
     clear HV hu
     go_enter Tryz.func142,Tryz.ntmps142
     go_wp2_with fail
     go_ret
     exact⟨zf HVV.out.symm,B1.out⟩
    ·
     subst hkd
     rw[if_neg (show ¬((1:Int)≤11∧(11:Int)≤6) by decide),if_neg (show ¬((7:Int)≤11∧(11:Int)≤9) by decide)] at HV
     by_cases c0:co=0
     ·
      subst c0
      by_cases s0:s.size=0
      ·
       have z2:=str_nil s0
       subst z2
       have HVV:Hid (V=true):=by unfold Hid;rw[←HV.out];exact qp ⟨rfl,rfl,rfl⟩
       clear HV
       go_enter Tryz.func142,Tryz.ntmps142
       go_wp2_with fail
       go_ret
       exact⟨zf HVV.out.symm,B1.out⟩
      ·
       have e2:=qop s0
       have HVV:Hid (V=false):=by unfold Hid;rw[←HV.out];exact ql fun h=>s0 h.2.2
       clear HV
       go_enter Tryz.func142,Tryz.ntmps142
       go_wp2_with fail
       go_ret
       exact⟨zf HVV.out.symm,B1.out⟩
     ·
      have e0:(co==0)=false:=qr.2 c0
      have HVV:Hid (V=false):=by unfold Hid;rw[←HV.out];exact ql fun h=>c0 h.2.1
      clear HV
      go_enter Tryz.func142,Tryz.ntmps142
      go_wp2_with fail
      go_ret
      exact⟨zf HVV.out.symm,B1.out⟩
    ·
     have HVV:Hid (V=false):=by unfold Hid;rw[←HV.out];rw[if_neg (by omega),if_neg (by omega)];exact ql fun h=>by omega
     clear HV
     have k1:(kd==1)=false:=qr.2 (by omega)
     have k2:(kd==2)=false:=qr.2 (by omega)
     have k3:(kd==3)=false:=qr.2 (by omega)
     have k4:(kd==4)=false:=qr.2 (by omega)
     have k5:(kd==5)=false:=qr.2 (by omega)
     have k6:(kd==6)=false:=qr.2 (by omega)
     have k7:(kd==7)=false:=qr.2 (by omega)
     have k8:(kd==8)=false:=qr.2 (by omega)
     have k9:(kd==9)=false:=qr.2 (by omega)
     have k11:(kd==11)=false:=qr.2 (by omega)
     clear hkd h10
     go_enter Tryz.func142,Tryz.ntmps142
     go_wp2_with fail
     go_ret
     exact⟨zf HVV.out.symm,B1.out⟩
   ·
    have e0:(ec != 0)=true:=by simpa using he
    have HVV:Hid (V=false):=by unfold Hid;rw[←HV.out];rw[ql (fun h=>he h.2),kw]
    clear HV
    go_enter Tryz.func142,Tryz.ntmps142
    go_wp2_with fail
    go_ret
    exact⟨zf HVV.out.symm,B1.out⟩
  ·
   have dz:(4096:Int)<(s.size:Int):=by omega
   have dz2:decide ((4096:Int)<(s.size:Int))=true:=qp dz
   have HVV:Hid (V=false):=by unfold Hid;rw[←HV.out];rw[ql (fun h=>hz h.1),kw]
   clear HV
   go_enter Tryz.func142,Tryz.ntmps142
   go_wp2_with fail
   go_ret
   exact⟨zf HVV.out.symm,B1.out⟩
end Go.Proofs.YtnjkipnklpkaoaaGreat
