/-
  Lemmas.
-/
import Derived.Test.YtnjkipnklpkaoaaGreatA29
namespace Go.Proofs.YtnjkipnklpkaoaaGreat
open Go.RowKit
set_option maxRecDepth 20000
set_option maxHeartbeats 16000000
set_option linter.unusedSimpArgs false
set_option linter.unusedVariables false
theorem same_any{w:World}{lo h' lo2 h2:Nat}{A B:Option Addr}{c d:Nat}(xs ys:List UInt8)(hx:Rd w lo h' A c (bv xs))(hy:Rd w lo2 h2 B d (bv ys)) :
  Calls Tryz.prog 13 #[.slice A xs.length c,.slice B ys.length d] w fun r w'=>r= .returned (.bool (decide (xs=ys)))∧w=w':=by
 have h1:=ko (P:=Tryz.prog) w 26 9 5 Tryz.underlying26 Tryz.underlying5 Tryz.underlying9 lo h' A c xs hx
 have h2:=ko (P:=Tryz.prog) w 26 9 5 Tryz.underlying26 Tryz.underlying5 Tryz.underlying9 lo2 h2 B d ys hy
 clear hx hy
 go_enter Tryz.func13,Tryz.ntmps13
 go_wp2
 go_ret
 refine⟨zf ?_,rfl⟩
 by_cases h:xs=ys
 ·
  simp[h]
 ·
  simp[h]
theorem same_len{w:World}{lo h' lo2 h2 n m:Nat}{A B:Option Addr}{c d:Nat}(xs ys:List UInt8)(b:Bool)(hx:Rd w lo h' A c (bv xs))(hy:Rd w lo2 h2 B d (bv ys))(hn:xs.length=n)(hm:ys.length=m)(he:decide (xs=ys)=b) :
  Calls Tryz.prog 13 #[.slice A n c,.slice B m d] w fun r w'=>r= .returned (.bool b)∧w=w':=by
 subst hn hm he
 exact same_any xs ys hx hy
end Go.Proofs.YtnjkipnklpkaoaaGreat
