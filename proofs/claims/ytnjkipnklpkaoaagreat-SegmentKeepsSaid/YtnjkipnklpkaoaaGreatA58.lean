/-
  Lemmas.
-/
import Derived.Test.YtnjkipnklpkaoaaGreatA57
namespace Go.Proofs.YtnjkipnklpkaoaaGreat
open Go.RowKit
set_option maxRecDepth 20000
set_option maxHeartbeats 16000000
set_option linter.unusedSimpArgs false
set_option linter.unusedVariables false
section
set_option maxRecDepth 100000
open Go.RowKit Go.ChangeShapes Go.WideShapes Go.ChangeAt
variable {H:Type}{enc:TypeId×Value→H}{W:World}
theorem open_rowsZ{b0:Nat}{v:Value}{d:DataW H}{q:List MemPlace}(hok:Value.okWide Tryz.prog W .any b0 41 v)(h:DataW.Trod enc Tryz.prog W 0 (fun _=>true) true 41 v d q)(hz:∀n∈d.weights Tryz.prog 41,n≤reachBytes) :
  ∃A rs c,v= .slice A rs.length c∧vr W 0 W.heap.size A c rs∧SizedQ rs:=by
 obtain⟨a0,l0,c0,rfl⟩:=okWide_slice Tryz.underlying41 hok
 obtain⟨fuel,hf⟩:=h
 obtain⟨A,rs,c,he,hr,hs⟩:=rows_fuelZ hf hz
 simp[Value.cells] at he
 obtain⟨rfl,rfl,rfl⟩:=he
 exact⟨_,rs,_,rfl,hr,hs⟩
end
theorem grp_lit1{w w2:World}{A:Option Addr}{c:Nat}{rs:List (List Vl)}(h:vr w 0 w.heap.size A c rs)(hw:w.alloc (.cells #[.slice A rs.length c] 41)=w2):qax w2 0 w2.heap.size (some ⟨w.heap.size,0,none⟩) 1 [rs]:=by
 have b:Below w.heap.size w w2:=by rw[←hw];exact(Below.refl _ w).alloc (qc _) _
 have ho:=vm (size:=1) (e:=41) w #[.slice A rs.length c] 1 (qc _) (by simp[maxLen]) rfl
 rw[hw] at ho
 refine qax.of ((Rd.of_own ho).wide (qi _) (qc _)) rfl fun j hj => ?_
 have hj1:j<1:=hj
 match j,hj1 with
 | 0,_=>exact⟨_,_,rfl,(h.below b (qc _)).wide (qc _) b.size⟩
def cellP(v:Vl):Bool:=decide (v.s.size≤100∧(v.null=true→v.s.size=0))
def rowP(cols:Int)(r:List Vl):Bool:=decide ((r.length:Int)=cols)&&r.all cellP
def rowsP(rs:List (List Vl))(cols:Int):Bool:=decide (1≤cols∧cols≤8∧rs.length≤100)&&rs.all (rowP cols)
theorem bytes_ne{s:ByteArray}(h:¬s.size=0):s.toList.isEmpty=false:=by
 rw[xi]
 intro e
 rw[jf] at e
 have:=congrArg List.length e
 rw[zy] at this
 exact h this
theorem bytes_nil{s:ByteArray}(h:s.size=0):s=⟨#[]⟩:=by
 have:s.data=#[]:=Array.eq_empty_of_size_eq_zero h
 cases s
 simp only at this
 rw[this]
theorem rowsp_any{w:World}{lo hi c:Nat}{A:Option Addr}{rs:List (List Vl)}{rA:Nat→Option Addr}{rc:Nat→Nat}(h:Rows2 w lo hi A c rs rA rc)(hhi:hi≤w.heap.size)(cols:Int) :
  Calls Tryz.prog 29 #[.slice A rs.length c,.int .i64 cols] w fun r w'=>r= .returned (.bool (rowsP rs cols))∧Below w.heap.size w w':=by
 obtain⟨hl1,hl2⟩:=h.len
 have H:=qa h
 clear h
 obtain⟨V,hV⟩:∃V,rowsP rs cols=V:=⟨_,rfl⟩
 rw[hV]
 have HV:=qa hV
 clear hV
 have HNO:Hid (¬(1≤cols∧cols≤8∧rs.length≤100)→V=false):=fun h=>by rw[←HV.out,rowsP,ql h];rfl
 by_cases h1:cols<1
 ·
  have HVV:Hid (V=false):=HNO.out (fun h=>by omega)
  go_enter Tryz.func29,Tryz.ntmps29
  go_wp2_with fail
  go_ret
  exact⟨zf HVV.out.symm,Below.refl _ _⟩
 ·
  by_cases h2:8<cols
  ·
   have HVV:Hid (V=false):=HNO.out (fun h=>by omega)
   go_enter Tryz.func29,Tryz.ntmps29
   go_wp2_with fail
   go_ret
   exact⟨zf HVV.out.symm,Below.refl _ _⟩
  ·
   by_cases h3:100<rs.length
   ·
    have i3:(100:Int)<(rs.length:Int):=by omega
    have HVV:Hid (V=false):=HNO.out (fun h=>by omega)
    go_enter Tryz.func29,Tryz.ntmps29
    go_wp2_with fail
    go_ret
    exact⟨zf HVV.out.symm,Below.refl _ _⟩
   ·
    have i3:¬(100:Int)<(rs.length:Int):=by omega
    have HVA:Hid (rs.all (rowP cols)=V):=by
     unfold Hid
     rw[←HV.out,rowsP,qp (show 1≤cols∧cols≤8∧rs.length≤100 by omega)]
     rfl
    clear HV HNO
    go_enter Tryz.func29,Tryz.ntmps29
    go_wp2_with fail
    go_loopw [5] (fun x5 wr=>∃k:Nat,k≤rs.length∧x5= .int .i64 (k:Int)∧(∀q∈rs.take k,rowP cols q=true)∧Below w.heap.size w wr) (fun x5 _=>rs.length-(intOf x5).toNat)
    case atStart=>exact⟨0,qi _,rfl,by simp,Below.refl _ _⟩
    case round =>
     obtain⟨k,hk,rfl,ha,hb⟩:=hrel
     obtain⟨wy,hwy⟩:∃wy,wy=wr:=⟨_,rfl⟩
     subst hwy
     have HA:=qa ha
     have HB:=qa hb
     have hsz:=hb.size
     clear ha hb
     by_cases hlt:k<rs.length
     ·
      have ik:(k:Int)<(rs.length:Int):=by omega
      obtain⟨b,off,rfl,hlo,hbh,c0,hrow⟩:=(H.out.below HB.out hhi).get hlt
      have HC0:Hid (∀W,Below wy.heap.size wy W→W.cell? ⟨b,off+k,none⟩=some (.slice (rA k) rs[k].length (rc k))):=fun W hW=>(hW.cell (by show b<_;omega)).trans c0
      have HR:=qa hrow
      obtain⟨hr1,hr2⟩:=hrow.len
      have HT:Hid (rs.take (k+1)=rs.take k++[rs[k]]):=qg hlt
      have HM:Hid (rs[k]∈rs):=qj hlt
      clear hrow
      generalize rs[k]=r at *
      have HFL:Hid (rowP cols r=false→V=false):=fun hf=>by
       rw[←HVA.out]
       refine qeo.2 fun h => ?_
       have:=jt.1 h r HM.out
       rw[hf] at this
       cases this
      by_cases hln:(r.length:Int)=cols
      ·
       have e1:((r.length:Int) != cols)=false:=by rw[hln];exact bne_self_eq_false cols
       have HFC:Hid (∀(j:Nat) (hj:j<r.length),cellP r[j]=false→V=false):=fun j hj hc=>HFL.out (by
        rw[rowP,Bool.and_eq_false_iff]
        refine .inr (qeo.2 fun h => ?_)
        have:=jt.1 h _ (qj hj)
        rw[hc] at this
        cases this)
       have HTR:Hid ((∀q∈r.take r.length,cellP q=true)→∀q∈rs.take (k+1),rowP cols q=true):=fun hc q hq=>by
        rw[HT.out] at hq
        rcases zt.1 hq with hq | hq
        ·
         exact HA.out q hq
        ·
         rw[zo.1 hq,rowP,qp hln,qbb]
         refine jt.2 fun x hx=>hc x ?_
         rw[yf]
         exact hx
       subst hln
       go_wp2_with fail
       go_loopw [6] (fun x6 wr=>∃j:Nat,j≤r.length∧x6= .int .i64 (j:Int)∧(∀q∈r.take j,cellP q=true)∧Below wy.heap.size wy wr) (fun x6 _=>r.length-(intOf x6).toNat)
       case atStart=>exact⟨0,qi _,rfl,by simp,Below.refl _ _⟩
       case round =>
        obtain⟨j,hj,rfl,hc,hbz⟩:=hrel
        obtain⟨wz,hwz⟩:∃wz,wz=wr:=⟨_,rfl⟩
        subst hwz
        have HC:=qa hc
        have HBZ:=qa hbz
        have hc0:=HC0.out wz hbz
        clear hc hbz
        by_cases hjl:j<r.length
        ·
         have ij:(j:Int)<(r.length:Int):=by omega
         obtain⟨b2,off2,hA2,hlo2,hbh2,d0,d1⟩:=(HR.out.below HBZ.out (by omega)).get hjl
         rw[hA2] at hc0
         have HFJ:=qa (HFC.out j hjl)
         have HTJ:Hid (r.take (j+1)=r.take j++[r[j]]):=qg hjl
         have hok:=HR.out.ok r[j] (qj hjl)
         generalize r[j]=v at *
         have HNX:Hid (cellP v=true→∀q∈r.take (j+1),cellP q=true):=fun h q hq=>by
          rw[HTJ.out] at hq
          rcases zt.1 hq with hq | hq
          ·
           exact HC.out q hq
          ·
           rw[zo.1 hq];exact h
         obtain⟨vn,vs⟩:=v
         simp only at d0 d1 hok
         by_cases h5:100<vs.size
         ·
          have i5:(100:Int)<(vs.size:Int):=by omega
          have HVV:Hid (V=false):=HFJ.out (ql fun h=>by have:=h.1;simp only at this;omega)
          go_wp2_with fail
          go_ret
          exact⟨zf HVV.out.symm,yd HB.out HBZ.out hsz⟩
         ·
          have i5:¬(100:Int)<(vs.size:Int):=by omega
          cases vn with
          | true =>
           by_cases h6:vs.size=0
           ·
            have h7:=bytes_nil h6
            subst h7
            have HNX2:=qa (HNX.out (qp ⟨by simp only;omega,fun _=>h6⟩))
            go_wp2_with fail
            go_roundw
            case rel=>exact⟨j+1,by omega,by go_num,HNX2.out,HBZ.out⟩
            case measure=>simp[intOf] <;> omega
           ·
            have e6:=bytes_ne h6
            have HVV:Hid (V=false):=HFJ.out (ql fun h=>h6 (h.2 rfl))
            go_wp2_with fail
            go_ret
            exact⟨zf HVV.out.symm,yd HB.out HBZ.out hsz⟩
          | false =>
           have HNX2:=qa (HNX.out (qp ⟨by simp only;omega,fun h=>by cases h⟩))
           go_wp2_with fail
           go_roundw
           case rel=>exact⟨j+1,by omega,by go_num,HNX2.out,HBZ.out⟩
           case measure=>simp[intOf] <;> omega
        ·
         have ij:¬(j:Int)<(r.length:Int):=by omega
         have hjr:j=r.length:=by omega
         have HA2:Hid (∀q∈rs.take (k+1),rowP (r.length:Int) q=true):=HTR.out (by rw[←hjr];exact HC.out)
         have HB2:=qa (yd HB.out HBZ.out hsz)
         go_wp2_with fail
         go_roundw
         case rel=>exact⟨k+1,by omega,by go_num,HA2.out,HB2.out⟩
         case measure=>simp[intOf] <;> omega
      ·
       have e1:((r.length:Int) != cols)=true:=by rw[bne_iff_ne];exact hln
       have HVV:Hid (V=false):=HFL.out (by rw[rowP,ql hln];rfl)
       have hc0:=HC0.out wy (Below.refl _ _)
       go_wp2_with fail
       go_ret
       exact⟨zf HVV.out.symm,HB.out⟩
     ·
      have ik:¬(k:Int)<(rs.length:Int):=by omega
      have HVV:Hid (V=true):=by
       unfold Hid
       rw[←HVA.out]
       refine jt.2 fun x hx=>HA.out x ?_
       rw[qo (by omega)]
       exact hx
      go_wp2_with fail
      go_ret
      exact⟨zf HVV.out.symm,HB.out⟩
end Go.Proofs.YtnjkipnklpkaoaaGreat
