/-
  Lemmas.
-/
import Derived.Test.YtnjkipnklpkaoaaGreatA23
import Derived.Test.YtnjkipnklpkaoaaGreatA25
import Derived.Test.YtnjkipnklpkaoaaGreatA27
import Derived.Test.YtnjkipnklpkaoaaGreatA45
namespace Go.Proofs.YtnjkipnklpkaoaaGreat
open Go.RowKit
set_option maxRecDepth 20000
set_option maxHeartbeats 16000000
set_option linter.unusedSimpArgs false
set_option linter.unusedVariables false
theorem cstep_zero{c:BitVec 32}(h:qht c=0#32):c=0#32:=by
 apply BitVec.eq_of_toNat_eq
 by_cases h1:c.toNat%2=1
 ·
  have h2:=cstep_odd h1
  rw[h] at h2
  have h3:(0#32:BitVec 32).toNat=0:=rfl
  rw[h3] at h2
  have h4:c.toNat/2=3988292384:=by
   have:=congrArg (· ^^^ 3988292384) h2
   simp only[Nat.zero_xor,Nat.xor_assoc,Nat.xor_self,Nat.xor_zero] at this
   exact this.symm
  have:=c.isLt
  omega
 ·
  have h2:=qoe (s:=c) (by omega)
  rw[h] at h2
  have h3:(0#32:BitVec 32).toNat=0:=rfl
  rw[h3] at h2 ⊢
  omega
theorem xor_zero_eq{a b:BitVec 32}(h:a ^^^ b=0#32):a=b:=by
 have:=congrArg (· ^^^ b) h
 simpa[BitVec.xor_assoc] using this
theorem cstep_inj{a b:BitVec 32}(h:qht a=qht b):a=b :=
 xor_zero_eq (cstep_zero (by rw[cstep_xor,h,BitVec.xor_self]))
theorem cstepN_inj(n:Nat){a b:BitVec 32}(h:qaw n a=qaw n b):a=b:=by
 induction n with
 | zero=>exact h
 | succ n ih=>exact ih (cstep_inj h)
theorem qja{a b c:BitVec 32}(h:a ^^^ c=b ^^^ c):a=b:=by
 have:=congrArg (· ^^^ c) h
 simpa[BitVec.xor_assoc] using this
theorem xor_left_inj{a b c:BitVec 32}(h:c ^^^ a=c ^^^ b):a=b:=by
 rw[BitVec.xor_comm c a,BitVec.xor_comm c b] at h
 exact qja h
theorem cbyte_inj{x y:UInt8}(h:qip x=qip y):x=y:=by
 have h1:=congrArg BitVec.toNat h
 unfold qip at h1
 rw[qbi,qbi] at h1
 have hx:=zp x
 have hy:=zp y
 apply qbd.1
 omega
theorem cupd_inj_s{a b:BitVec 32}{x:UInt8}(h:qqn a x=qqn b x):a=b:=qja (cstepN_inj 8 h)
theorem cupd_inj_x{s:BitVec 32}{x y:UInt8}(h:qqn s x=qqn s y):x=y:=cbyte_inj (xor_left_inj (cstepN_inj 8 h))
theorem cfold_inj(l:List UInt8):∀ {a b:BitVec 32},qbt a l=qbt b l→a=b:=by
 induction l with
 | nil=>intro a b h;exact h
 | cons x l ih=>intro a b h;exact cupd_inj_s (ih (a:=qqn a x) (b:=qqn b x) h)
theorem crcL_inj_at(a b:List UInt8)(x y:UInt8):qc7 (a++[x]++b)=qc7 (a++[y]++b)↔x=y:=by
 refine⟨fun h => ?_,fun h=>by rw[h]⟩
 have h1:=qja h
 rw[qh2,qh2 _ (a++[y]),qkp,qkp] at h1
 exact cupd_inj_x (cfold_inj b h1)
theorem crcB_inj{a b:BitVec 32}(h:qh0 a=qh0 b):a=b:=by
 have ha:=a.isLt
 have hb:=b.isLt
 unfold qh0 at h
 injection h with h1 h
 injection h with h2 h
 injection h with h3 h
 injection h with h4 h
 have e1:=congrArg UInt8.toNat h1
 have e2:=congrArg UInt8.toNat h2
 have e3:=congrArg UInt8.toNat h3
 have e4:=congrArg UInt8.toNat h4
 rw[qd2 (by omega),qd2 (by omega)] at e1
 rw[qd2 (by omega),qd2 (by omega)] at e2
 rw[qd2 (by omega),qd2 (by omega)] at e3
 rw[qd2 (by omega),qd2 (by omega)] at e4
 apply BitVec.eq_of_toNat_eq
 omega
theorem set_parts{l:List UInt8}{k:Nat}(h:k<l.length)(y:UInt8):l.set k y=l.take k++[y]++l.drop (k+1):=by
 rw[List.set_eq_take_append_cons_drop,if_pos h]
 simp
theorem get_parts{l:List UInt8}{k:Nat}(h:k<l.length):l=l.take k++[l[k]]++l.drop (k+1):=by
 have:=set_parts h l[k]
 rwa [List.set_getElem_self] at this
theorem crcL_set{l:List UInt8}{k:Nat}(h:k<l.length)(y:UInt8):qc7 (l.set k y)=qc7 l↔y=l[k]:=by
 rw[set_parts h]
 conv=>lhs;rhs;rw[get_parts h]
 exact crcL_inj_at _ _ _ _
theorem sealedB_set{l:List UInt8}{k:Nat}(h:k<(kr l).length)(y:UInt8):qft ((kr l).set k y)=decide (y=(kr l)[k]):=by
 have hl:=qdy l
 have h4:4≤((kr l).set k y).length:=by rw[xt];omega
 unfold qft
 rw[qp h4,qbb,decide_eq_decide,xt,hl,Nat.add_sub_cancel]
 rcases xc k l.length with hk | hk
 ·
  have e1:((kr l).set k y).drop l.length=qh0 (qc7 l):=by
   rw[List.drop_set,if_pos hk,qno]
  have e2:((kr l).set k y).take l.length=l.set k y:=by rw[List.take_set,qkf]
  have e3:(kr l)[k]=l[k]:=by simp[kr,qba hk]
  rw[e1,e2,e3]
  constructor
  ·
   intro q
   exact(crcL_set hk y).1 (crcB_inj q).symm
  ·
   intro q
   rw[(crcL_set hk y).2 q]
 ·
  have e1:((kr l).set k y).drop l.length=(qh0 (qc7 l)).set (k-l.length) y:=by
   rw[List.drop_set,if_neg (by omega),qno]
  have e2:((kr l).set k y).take l.length=l:=by
   rw[List.take_set,qkf,List.set_eq_of_length_le hk]
  have hk4:k-l.length<(qh0 (qc7 l)).length:=by rw[qcc];omega
  have e3:(kr l)[k]=(qh0 (qc7 l))[k-l.length]:=by simp[kr,qce hk]
  rw[e1,e2,e3]
  constructor
  ·
   intro q
   have:=congrArg (fun z=>z[k-l.length]?) q
   simp only[qdq hk4,qe hk4] at this
   exact jh this
  ·
   intro q
   rw[q,List.set_getElem_self]
section
open Go.ChangeShapes Go.WideShapes Go.ChangeAt Go.RowKit
theorem u8_of_wf{a:Int}(h:(Lit.int .u8 a).wf=true):∃b:UInt8,a=(b.toNat:Int):=by
 have hb:=bounds_u8 h
 exact⟨UInt8.ofNat a.toNat,by rw[xh];omega⟩
theorem u16_of_wf{a:Int}(h:(Lit.int .u16 a).wf=true):∃n:Nat,a=(n:Int)∧n<65536:=by
 have hb:=bounds_u16 h
 exact⟨a.toNat,by omega,by omega⟩
end
theorem qmm{gs:List (List (List Vl))}{os:List Co}{cols bits:Int}(hR:jaa cols gs os bits)(hT:qkx gs os)(hF:FewSg gs os):∃(bs:List UInt8) (GS:List GrpS),kr (qgh os bits.toNat gs)=bs∧qbw bs os.length GS∧qeu GS=gs.flatten∧qas GS=ki gs∧GS.length=gs.length∧
  (∀i (hi:i<gs.length) (h2:i<GS.length),GS[i].rows=gs[i].length∧GS[i].cols.length=os.length)∧(4≤bs.length∧bs.length≤1000000000)∧∀k (hk:k<bs.length) (y:UInt8),qft (bs.set k y)=decide (y=bs[k]):=by
 have hbits:(bits.toNat:Int)=bits:=by have:=hR.2.2.2.1;omega
 have hR2:jaa cols gs os (bits.toNat:Int):=by rw[hbits];exact hR
 have hfg:qry gs os:=few_gr hF fun g hg=>(hR.2.2.2.2.2.2.2 g hg).2.1
 have hle:=segB_len hR2 hT hF
 refine⟨_,gs.map (qjv os bits.toNat),rfl,sg_there hR2 hT hfg,rowsS_of hR2 hT hfg,rowsT_of os bits.toNat gs,q8 _,fun i hi h2 => ?_,?_,fun k hk y=>sealedB_set hk y⟩
 ·
  rw[yz]
  exact⟨rfl,by simp[qjv]⟩
 ·
  rw[qdy]
  omega
end Go.Proofs.YtnjkipnklpkaoaaGreat
