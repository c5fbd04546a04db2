/-
  Lemmas.
-/
import Derived.Test.YtjfecojdagmacaaGreatE02
namespace Go.Proofs.YtjfecojdagmacaaGreat
open Go.RowKit
set_option maxRecDepth 20000
set_option maxHeartbeats 16000000
set_option linter.unusedSimpArgs false
set_option linter.unusedVariables false
theorem xq.setErr{w:World}{lo g k:Nat}{bs:List UInt8}{e:Int}(h:xq w lo g bs k e)(x:Int):xq (w.setCell ⟨g,2,none⟩ (.int .i64 x)) lo g bs k x:=by
 obtain⟨A,c,hb,hrd,hk,hl⟩:=h
 exact⟨A,c,by simpa using hb.put 2 (.int .i64 x),hrd.setCell (p:=⟨g,2,none⟩) (.inr (qc _)) _,hk,hl⟩
theorem xq.setPlace{w:World}{lo g k:Nat}{bs:List UInt8}{e:Int}(h:xq w lo g bs k e)(x:Nat)(hx:x≤bs.length):xq (w.setCell ⟨g,1,none⟩ (.int .i64 (x:Int))) lo g bs x e:=by
 obtain⟨A,c,hb,hrd,hk,hl⟩:=h
 exact⟨A,c,by simpa using hb.put 1 (.int .i64 (x:Int)),hrd.setCell (p:=⟨g,1,none⟩) (.inr (qc _)) _,hx,hl⟩
theorem qg3{w:World}{lo g k:Nat}{bs:List UInt8}(x:Int)(h:xq w lo g bs k 0) :
  Calls Tryz.prog 127 #[cp g,.int .i64 x] w fun r w'=>r= .returned (.tuple #[])∧w.setCell ⟨g,2,none⟩ (.int .i64 x)=w':=by
 have hg:=yq h
 obtain⟨A,c,hb, -, -, -⟩:=h
 have h2:=hb.cell 2
 have hf:=hb.frozen 2
 simp at h2
 clear hb
 unfold cp at hg ⊢
 go_enter Tryz.func127,Tryz.ntmps127
 go_wp2_with fail
 refine hg.mono ?_
 rintro e w' ⟨rfl,rfl⟩
 go_wp2_with fail
 go_end0
 exact⟨rfl,rfl⟩
theorem fail_bad{w:World}{lo g k:Nat}{bs:List UInt8}{e:Int}(x:Int)(h:xq w lo g bs k e)(he:e≠0) :
  Calls Tryz.prog 127 #[cp g,.int .i64 x] w fun r w'=>r= .returned (.tuple #[])∧w=w':=by
 have hg:=yq h
 have h0:(e==0)=false:=by simpa using he
 rw[h0] at hg
 clear h h0 he
 unfold cp at hg ⊢
 go_enter Tryz.func127,Tryz.ntmps127
 go_wp2_with fail
 refine hg.mono ?_
 rintro e w' ⟨rfl,rfl⟩
 go_wp2_with fail
 go_end0
 exact⟨rfl,rfl⟩
def z6(bs:List UInt8)(k:Nat)(e:Int)(skip:Nat)(n:Int):List UInt8×Nat×Int :=
 if e≠0 then ([],k,e) else if n<0 then ([],k,3) else if (bs.length:Int)-k-skip<n then ([],k,2) else ((bs.drop (k+skip)).take n.toNat,k+skip+n.toNat,0)
theorem take_bad{w:World}{lo g k:Nat}{bs:List UInt8}{e:Int}(skip:Nat)(n:Int)(h:xq w lo g bs k e)(he:e≠0)(hs:skip≤bs.length)(h63:bs.length≤maxLen) :
  Calls Tryz.prog 95 #[cp g,.int .i64 (skip:Int),.int .i64 n] w fun r w'=>r= .returned (.slice none 0 0)∧∃m,w.drewN m=w':=by
 have h0:(e==0)=false:=by simpa using he
 unfold maxLen at h63
 have hk:(bs.length-k:Nat)≤bs.length:=by omega
 have H:=qa h
 have HE:=qa he
 clear h he
 unfold cp
 go_enter Tryz.func95,Tryz.ntmps95
 go_wp2_with (first
  | (go_at_call 127;refine(fail_bad _ (by first | exact H.out | exact H.out.drewN _) HE.out).mono ?_;rintro e w' ⟨rfl,rfl⟩)
  | (go_at_call 97;refine(qcx (by first | exact H.out | exact H.out.drewN _)).mono ?_;rintro e w' ⟨rfl,⟨m,rfl⟩⟩)
  | (go_at_call 96;refine(yq (by first | exact H.out | exact H.out.drewN _)).mono ?_;rintro e w' ⟨rfl,rfl⟩))
 all_goals go_ret
 all_goals exact⟨rfl,_,rfl⟩
theorem take_neg{w:World}{lo g k:Nat}{bs:List UInt8}(skip:Nat)(n:Int)(h:xq w lo g bs k 0)(hn:n<0)(hs:k+skip≤bs.length)(h63:bs.length≤maxLen) :
  Calls Tryz.prog 95 #[cp g,.int .i64 (skip:Int),.int .i64 n] w fun r w'=>r= .returned (.slice none 0 0)∧∃m,(w.setCell ⟨g,2,none⟩ (.int .i64 3)).drewN m=w':=by
 unfold maxLen at h63
 have hk:skip≤(bs.length-k:Nat):=by omega
 have hk':(bs.length-k:Nat)≤bs.length:=by omega
 have H:=qa h
 have H':=qa (h.setErr 3)
 clear h
 unfold cp
 go_enter Tryz.func95,Tryz.ntmps95
 go_wp2_with (first
  | (go_at_call 127;refine(qg3 _ H.out).mono ?_;rintro e w' ⟨rfl,rfl⟩)
  | (go_at_call 97;refine(qcx (by first | exact H'.out | exact H'.out.drewN _)).mono ?_;rintro e w' ⟨rfl,⟨m,rfl⟩⟩)
  | (go_at_call 96;refine(yq (by first | exact H'.out | exact H'.out.drewN _)).mono ?_;rintro e w' ⟨rfl,rfl⟩))
 all_goals go_ret
 all_goals exact⟨rfl,_,rfl⟩
theorem take_over{w:World}{lo g k:Nat}{bs:List UInt8}(skip:Nat)(n:Int)(h:xq w lo g bs k 0)(hn:0≤n)(hov:((bs.length-k:Nat):Int)-skip<n)(hs:k+skip≤bs.length)(h63:bs.length≤maxLen) :
  Calls Tryz.prog 95 #[cp g,.int .i64 (skip:Int),.int .i64 n] w fun r w'=>r= .returned (.slice none 0 0)∧∃m,(w.setCell ⟨g,2,none⟩ (.int .i64 2)).drewN m=w':=by
 unfold maxLen at h63
 have hk:skip≤(bs.length-k:Nat):=by omega
 have hk':(bs.length-k:Nat)≤bs.length:=by omega
 have H:=qa h
 have H':=qa (h.setErr 2)
 clear h
 unfold cp
 go_enter Tryz.func95,Tryz.ntmps95
 go_wp2_with (first
  | (go_at_call 127;refine(qg3 _ (H.out.drewN _)).mono ?_;rintro e w' ⟨rfl,rfl⟩)
  | (go_at_call 97;refine(qcx H.out).mono ?_;rintro e w' ⟨rfl,⟨m,rfl⟩⟩)
  | (go_at_call 96;refine(yq (by first | exact H'.out | exact H'.out.drewN _)).mono ?_;rintro e w' ⟨rfl,rfl⟩))
 all_goals go_ret
 all_goals exact⟨rfl,_,rfl⟩
theorem take_ok{w:World}{lo g k:Nat}{bs:List UInt8}{A:Option Addr}{c:Nat}(skip n:Nat)(hb:j8 w g 153 #[.slice A bs.length c,.int .i64 (k:Int),.int .i64 0])(hrd:Rd w lo g A c (bv bs))(hs:k+skip+n≤bs.length)(hl:lo≤g) :
  Calls Tryz.prog 95 #[cp g,.int .i64 (skip:Int),.int .i64 (n:Int)] w fun r w'=>r= .returned (.slice (if c=k+skip then A else A.map (·.add (k+skip))) n (c-(k+skip)))∧∃m m',((w.drewN m).setCell ⟨g,1,none⟩ (.int .i64 ((k:Int)+skip+n))).drewN m'=w':=by
 have h63:=hrd.cap
 have hlc:=hrd.len
 rw[jj] at hlc
 unfold maxLen at h63
 have h:xq w lo g bs k 0:=⟨A,c,hb,hrd,by omega,hl⟩
 have hk:skip+n≤(bs.length-k:Nat):=by omega
 have hk':(bs.length-k:Nat)≤bs.length:=by omega
 have H:=qa h
 have h0:=hb.cell 0
 have h1:=hb.cell 1
 have hf:=hb.frozen 1
 simp at h0 h1
 have hn0:¬((n:Int)<0):=by omega
 have hle:(n:Int)≤((bs.length-k:Nat):Int)-(skip:Int):=by omega
 clear h hb hrd
 unfold cp
 go_enter Tryz.func95,Tryz.ntmps95
 go_wp2_with (first
  | (go_at_call 97;refine(qcx H.out).mono ?_;rintro e w' ⟨rfl,⟨m,rfl⟩⟩)
  | (go_at_call 96;refine(yq (by first | exact H.out | exact H.out.drewN _)).mono ?_;rintro e w' ⟨rfl,rfl⟩))
 go_quiet (fail)
 all_goals go_wp2
 all_goals go_ret
 all_goals refine⟨?_,_,_,rfl⟩
 all_goals (rename_i hcc;simp[hcc])
theorem qkn{w:World}{lo g k:Nat}{bs:List UInt8}{e:Int}(skip:Nat)(n:Int)(h:xq w lo g bs k e)(hs:k+skip≤bs.length) :
  Calls Tryz.prog 95 #[cp g,.int .i64 (skip:Int),.int .i64 n] w fun r w'=>∃A c,r= .returned (.slice A (z6 bs k e skip n).1.length c)∧
   Rd w' lo g A c (bv (z6 bs k e skip n).1)∧xq w' lo g bs (z6 bs k e skip n).2.1 (z6 bs k e skip n).2.2∧w.grownBy w' (some g):=by
 have h63:bs.length≤maxLen:=by
  obtain⟨A,c,_,hrd,_⟩:=h
  have h1:=hrd.len
  have h2:=hrd.cap
  rw[jj] at h1
  omega
 by_cases he:e=0
 ·
  subst he
  by_cases hn:n<0
  ·
   rw[show z6 bs k 0 skip n=([],k,3) from by simp[z6,hn]]
   refine(take_neg skip n h hn hs h63).mono ?_
   rintro r w' ⟨rfl,m,rfl⟩
   exact⟨_,_,rfl,Rd.nil _ _ _,(h.setErr 3).drewN m,qak (yr (yx w _) (.inl rfl) _) m⟩
  ·
   by_cases hov:(bs.length:Int)-k-skip<n
   ·
    rw[show z6 bs k 0 skip n=([],k,2) from by simp[z6,hn,hov]]
    refine(take_over skip n h (by omega) (by have:k≤bs.length:=(by omega);rw[Int.ofNat_sub this];exact hov) hs h63).mono ?_
    rintro r w' ⟨rfl,m,rfl⟩
    exact⟨_,_,rfl,Rd.nil _ _ _,(h.setErr 2).drewN m,qak (yr (yx w _) (.inl rfl) _) m⟩
   ·
    obtain⟨j,rfl⟩:=Int.eq_ofNat_of_zero_le (show 0≤n by omega)
    have hj:k+skip+j≤bs.length:=by omega
    rw[show z6 bs k 0 skip (j:Int)=((bs.drop (k+skip)).take j,k+skip+j,0) from by simp[z6,hov]]
    obtain⟨A,c,hb,hrd,hk,hl⟩:=h
    refine(take_ok skip j hb hrd hj hl).mono ?_
    rintro r w' ⟨rfl,m,m',rfl⟩
    have hcur:xq w lo g bs k 0:=⟨A,c,hb,hrd,hk,hl⟩
    have hcut:=(hrd.drewN m).setCell (p:=⟨g,1,none⟩) (.inr (qc _)) (.int .i64 ((k:Int)+skip+j))
    have hcut2:=(hcut.cut (k:=k+skip) (n:=k+skip+j) (by omega) (by rw[jj];exact hj)).drewN m'
    rw[show k+skip+j-(k+skip)=j from by omega,←qk7,←bv_take] at hcut2
    have hlen:((bs.drop (k+skip)).take j).length=j:=by simp;omega
    refine⟨_,_,by rw[hlen],hcut2,?_,qak (yr (qak (yx w _) m) (.inl rfl) _) m'⟩
    have:=((hcur.drewN m).setPlace (k+skip+j) hj).drewN m'
    simpa using this
 ·
  rw[show z6 bs k e skip n=([],k,e) from by simp[z6,he]]
  refine(take_bad skip n h he (by omega) h63).mono ?_
  rintro r w' ⟨rfl,m,rfl⟩
  exact⟨_,_,rfl,Rd.nil _ _ _,h.drewN m,qak (yx w _) m⟩
theorem xq.open_{w:World}{lo g k:Nat}{bs:List UInt8}{e:Int}(h:xq w lo g bs k e):∃A c,w.cell? ⟨g,0,none⟩=some (.slice A bs.length c)∧w.cell? ⟨g,1,none⟩=some (.int .i64 (k:Int))∧w.cell? ⟨g,2,none⟩=some (.int .i64 e)∧Rd w lo g A c (bv bs)∧k≤bs.length∧bs.length≤c∧c≤9223372036854775807:=by
 obtain⟨A,c,hb,hrd,hk, -⟩:=h
 have h0:=hb.cell 0
 have h1:=hb.cell 1
 have h2:=hb.cell 2
 have h3:=hrd.len
 have h4:=hrd.cap
 rw[jj] at h3
 exact⟨A,c,h0,h1,h2,hrd,hk,h3,by simpa[maxLen] using h4⟩
theorem xq.le{w:World}{lo g k:Nat}{bs:List UInt8}{e:Int}(h:xq w lo g bs k e):k≤bs.length:=by obtain⟨_,_,_,_,hk,_⟩:=h;exact hk
theorem qa3(bs:List UInt8)(k:Nat)(e:Int)(skip:Nat)(n:Int)(he:e≠0):z6 bs k e skip n=([],k,e):=by simp[z6,he]
theorem takeR_one(bs:List UInt8)(k:Nat)(e:Int):(z6 bs k e 0 1).1.length≤1:=by
 unfold z6
 repeat' split
 all_goals simp
 all_goals omega
theorem qdg{w:World}{lo g k:Nat}{bs:List UInt8}{e:Int}(n:Int)(h:xq w lo g bs k e)(hb:bs.length≤140737488355328) :
  Calls Tryz.prog 67 #[cp g,.int .i64 n] w fun r w'=>∃A c,r= .returned (.slice A (z6 bs k e 0 n).1.length c)∧w'.ownsRow w.heap.size 5 1 (.slice A (z6 bs k e 0 n).1.length c) (z6 bs k e 0 n).1.length (bv (z6 bs k e 0 n).1)∧
   xq w' lo g bs (z6 bs k e 0 n).2.1 (z6 bs k e 0 n).2.2∧w.grownBy w' (some g):=by
 have hk:=h.le
 have hgl:=h.lt
 have HT:=qa (qkn 0 n h (by omega))
 have hl:(z6 bs k e 0 n).1.length≤bs.length:=by
  unfold z6
  repeat' split
  all_goals simp
  all_goals omega
 clear h
 generalize z6 bs k e 0 n=T at *
 go_enter Tryz.func67,Tryz.ntmps67
 go_wp2_with fail
 refine HT.out.mono ?_
 rintro r w1 ⟨A,c,rfl,hrd,hc1,hg1⟩
 have HC:=qa hc1
 have HR:=qa hrd
 have HG:=qa hg1
 have hs:=hg1.size
 clear hc1 hrd hg1
 go_wp2_with fail
 refine(clone_any _ _ HR.out (by omega)).mono ?_
 rintro r w2 ⟨A',c',rfl,hown,hbel⟩
 have HO:=qa hown
 clear hown
 go_wp2_with fail
 go_ret
 have hg2:w1.grownBy w2 none:=qgu (qc _) hbel
 refine⟨_,_,rfl,?_,HC.out.grown hg2 (by simp),HG.out.trans (qev hg2)⟩
 obtain⟨hlen,hrest⟩:=HO.out
 refine⟨hlen,?_⟩
 rcases hrest with h0 | ⟨g',cap,cur,hv,hb',hr⟩
 ·
  exact .inl h0
 ·
  exact .inr ⟨g',cap,cur,hv,by omega,hr⟩
theorem qk6{w:World}{lo g k:Nat}{bs:List UInt8}{e:Int}(h:xq w lo g bs k e) :
  Calls Tryz.prog 126 #[cp g] w fun r w'=>r= .returned (.int .i64 (((z6 bs k e 0 1).1.headD 0).toNat:Int))∧
   xq w' lo g bs (z6 bs k e 0 1).2.1 (z6 bs k e 0 1).2.2∧w.grownBy w' (some g):=by
 have hk:=h.le
 have HT:=qa (qkn 0 1 h (by omega))
 have h1:=takeR_one bs k e
 clear h
 generalize z6 bs k e 0 1=T at *
 obtain⟨l,k',e'⟩:=T
 simp only[] at *
 rcases l with _ | ⟨x,r⟩
 ·
  go_enter Tryz.func126,Tryz.ntmps126
  go_wp2_with fail
  refine HT.out.mono ?_
  rintro r w1 ⟨A,c,rfl,hrd,hc1,hg1⟩
  have HC:=qa hc1
  clear hc1 hrd
  go_wp2_with fail
  go_ret
  exact⟨rfl,HC.out,hg1⟩
 ·
  have hr:r=[]:=by simp at h1;exact h1
  subst hr
  have hx:x.toNat<256:=je _
  go_enter Tryz.func126,Tryz.ntmps126
  go_wp2_with fail
  refine HT.out.mono ?_
  rintro r w1 ⟨A,c,rfl,hrd,hc1,hg1⟩
  have HC:=qa hc1
  obtain⟨b,off,rfl,_,_,hcell⟩:=hrd.get (k:=0) (by simp[bv])
  rw[y7] at hcell
  have hcell':w1.cell? ⟨b,off,none⟩=some (.int .u8 (x.toNat:Int)):=hcell
  have HG:=qa hg1
  clear hc1 hrd hcell h1 hg1
  go_wp2
  go_ret
  exact⟨rfl,HC.out,HG.out⟩
def val:List UInt8→Nat
 | []=>0
 | b :: r=>b.toNat%128+128*val r
theorem val_snoc(l:List UInt8)(b:UInt8):val (l++[b])=val l+128 ^ l.length*(b.toNat%128):=by
 induction l with
 | nil=>simp[val]
 | cons x r ih =>
  simp only[z7,val,ih,qo,kw]
  rw[qcm,yz (128 ^ r.length) 128,←qc9,qaz]
theorem val_lt(l:List UInt8):val l<128 ^ l.length:=by
 induction l with
 | nil=>simp[val]
 | cons x r ih =>
  simp only[val,qo,kw]
  have:=qb1 x.toNat (show 0<128 by omega)
  omega
def uu:List UInt8→Nat
 | []=>0
 | b :: r=>if 128≤b.toNat then uu r+1 else 0
theorem lead_le(l:List UInt8):uu l≤l.length:=by
 induction l with
 | nil=>simp[uu]
 | cons b r ih=>simp only[uu,qo];split <;> omega
theorem lead_at(l:List UInt8)(k:Nat)(hk:k≤uu l)(hl:k<l.length):(128≤l[k].toNat→k+1≤uu l)∧(l[k].toNat<128→uu l=k):=by
 induction l generalizing k with
 | nil=>simp at hl
 | cons b r ih =>
  simp only[uu] at hk ⊢
  rcases k with _ | k
  ·
   simp only[xj]
   constructor
   ·
    intro h;rw[if_pos h];omega
   ·
    intro h;rw[if_neg (by omega)]
  ·
   simp only[List.getElem_cons_succ]
   by_cases hb:128≤b.toNat
   ·
    rw[if_pos hb] at hk ⊢
    have:=ih k (by omega) (by simpa using hl)
    constructor
    ·
     intro h;have:=this.1 h;omega
    ·
     intro h;have:=this.2 h;omega
   ·
    rw[if_neg hb] at hk;omega
def qai(bs:List UInt8):Nat×Nat×Int :=
 if 9≤uu bs then (0,0,if 9<bs.length then 3 else 2)
 else if bs.length≤uu bs then (0,0,2)
 else if 0<uu bs∧(bs[uu bs]?.getD 0).toNat=0 then (0,0,3)
 else (val (bs.take (uu bs+1)),uu bs+1,0)
theorem vnum_here(bs:List UInt8)(k:Nat)(hk:k≤uu bs)(hl:k<bs.length)(h9:k<9)(hx:bs[k].toNat<128) :
  qai bs=if 0<k∧bs[k].toNat=0 then (0,0,3) else (val (bs.take k)+128 ^ k*(bs[k].toNat%128),k+1,0):=by
 have e:=(lead_at bs k hk hl).2 hx
 unfold qai
 rw[e,if_neg (by omega),if_neg (by omega),qe hl,Option.getD_some]
 split
 ·
  rfl
 ·
  rw[qi hl,val_snoc,qy,vr (by omega)]
theorem vnum_over(bs:List UInt8)(h:min bs.length 9≤uu bs):qai bs=(0,0,if 9<bs.length then 3 else 2):=by
 have:=lead_le bs
 unfold qai
 by_cases h9:9≤uu bs
 ·
  rw[if_pos h9]
 ·
  rw[if_neg h9,if_pos (by omega),if_neg (by omega)]
theorem and127(x:Nat):x &&& 127=x%128:=Nat.and_two_pow_sub_one_eq_mod x 7
theorem digit_in(V x k:Nat)(hV:V<128 ^ k)(hx:x<256)(hk:k<9) :
  bits .or .i64 (V:Int) (wrap64 (wrap64 (bits .andNot .u8 (x:Int) 128)*2 ^ (7*k)))=((V+128 ^ k*(x%128):Nat):Int):=by
 have e1:bits .andNot .u8 (x:Int) 128=((x%128:Nat):Int):=by
  have:=u8_andNot_nat x 128 hx (by omega)
  rw[←and127]
  exact this
 have hd:=qb1 x (show 0<128 by omega)
 have e2:(2:Int) ^ (7*k)=((128 ^ k:Nat):Int):=by
  rw[Int.pow_mul];norm_cast
 have hp:128 ^ k≤128 ^ 8:=yb (by omega) (by omega)
 have hb:x%128*128 ^ k<9223372036854775808:=by
  calc x%128*128 ^ k≤127*128 ^ 8:=ug (by omega) hp
   _<9223372036854775808:=by decide
 have e4:wrap64 ((x%128:Nat):Int)=((x%128:Nat):Int):=ud _ (by omega)
 have e5:wrap64 ((x%128*128 ^ k:Nat):Int)=((x%128*128 ^ k:Nat):Int):=ud _ (by omega)
 rw[e1,e2,e4,←qan,e5,or_i64 V _ (by omega) hb]
 congr 1
 have e3:128 ^ k=2 ^ (7*k):=by rw[Nat.pow_mul]
 rw[e3] at hV ⊢
 rw[Nat.or_comm,←uw,←uc hV,uw]
 rw[Nat.add_comm,yz]
theorem qjq{w:World}{lo h':Nat}{A:Option Addr}{c:Nat}(bs:List UInt8)(h:Rd w lo h' A c (bv bs)) :
  Calls Tryz.prog 133 #[.slice A bs.length c] w fun r w'=>r= .returned (.tuple #[.int .i64 ((qai bs).1:Int),.int .i64 ((qai bs).2.1:Int),.int .i64 (qai bs).2.2])∧w=w':=by
 have hl:=h.len
 have hc:=h.cap
 rw[jj] at hl
 unfold maxLen at hc
 have H:=qa h
 clear h
 by_cases h9:bs.length≤9
 all_goals
  go_enter Tryz.func133,Tryz.ntmps133
  go_wp2_with fail
  go_loop [2,13] (fun n i=>∃k:Nat,k≤min bs.length 9∧i= .int .i64 k∧k≤uu bs∧n= .int .i64 (val (bs.take k))) (fun _ i=>bs.length-(intOf i).toNat)
  case atStart=>exact⟨0,by omega,rfl,by omega,by simp[val]⟩
  case round =>
   obtain⟨k,hk,rfl,hlead,rfl⟩:=hrel
   by_cases hlt:k<min bs.length 9
   ·
    obtain⟨b,off,rfl,_,_,hcell⟩:=H.out.get (k:=k) (by rw[jj];omega)
    have hv:=qgt bs k (by omega)
    rw[qe (by rw[jj];omega)] at hv
    injection hv with hv
    rw[hv] at hcell
    clear hv
    have hlast:=qa (vnum_here bs k hlead (by omega) (by omega))
    have hnext:=qa ((lead_at bs k hlead (by omega)).1)
    have hV:=val_lt (bs.take k)
    have hx256:bs[k].toNat<256:=je _
    rw[qy,vr (by omega)] at hV
    have HD:=qa (digit_in (val (bs.take k)) bs[k].toNat k hV hx256 (by omega))
    have hS:val (bs.take (k+1))=val (bs.take k)+128 ^ k*(bs[k].toNat%128):=by
     rw[qi (by omega),val_snoc,qy,vr (by omega)]
    have HS:=qa hS
    generalize bs[k].toNat=x at *
    generalize val (bs.take k)=V at *
    clear hV hS hlead
    go_wp2
    case roundEnd =>
     have hge:128≤x:=by omega
     exact⟨⟨k+1,by omega,by go_num,hnext.out hge,by rw[HS.out,HD.out]⟩,by simp[intOf];omega⟩
    all_goals
     go_ret3
     have hlt':x<128:=by omega
     rw[hlast.out hlt']
     first
     | (rw[if_pos (by omega)];exact⟨rfl,rfl⟩)
     | (rw[if_neg (by omega)];exact⟨by rw[←HD.out];rfl,rfl⟩)
     | (rw[if_neg (by omega)];have hx0:x=0:=(by omega);subst hx0;exact⟨(by rw[←HD.out];rfl),rfl⟩)
   ·
    have hv:=qa (vnum_over bs (by omega))
    go_wp2
    all_goals
     go_ret3
     rw[hv.out]
     first
     | (rw[if_pos (by omega)];exact⟨rfl,rfl⟩)
     | (rw[if_neg (by omega)];exact⟨rfl,rfl⟩)
def qdz(bs:List UInt8)(k:Nat)(most:Int):Int :=
 if (qai (bs.drop k)).2.2≠0 then (qai (bs.drop k)).2.2 else if most<(qai (bs.drop k)).1 then 3 else 0
theorem peek_bad{w:World}{lo g k:Nat}{bs:List UInt8}{e:Int}(most:Int)(h:xq w lo g bs k e)(he:e≠0) :
  Calls Tryz.prog 94 #[cp g,.int .i64 most] w fun r w'=>r= .returned (.tuple #[.int .i64 0,.int .i64 0])∧w=w':=by
 have hg:=yq h
 have h0:(e==0)=false:=by simpa using he
 rw[h0] at hg
 clear h h0 he
 unfold cp at hg ⊢
 go_enter Tryz.func94,Tryz.ntmps94
 go_wp2_with fail
 refine hg.mono ?_
 rintro e w' ⟨rfl,rfl⟩
 go_wp2_with fail
 go_ret2
 exact⟨rfl,rfl⟩
theorem peek_good{w:World}{lo g k:Nat}{bs:List UInt8}(most:Int)(h:xq w lo g bs k 0)(he:qdz bs k most=0) :
  Calls Tryz.prog 94 #[cp g,.int .i64 most] w fun r w'=>r= .returned (.tuple #[.int .i64 ((qai (bs.drop k)).1:Int),.int .i64 ((qai (bs.drop k)).2.1:Int)])∧∃m,w.drewN m=w':=by
 have H:=qa h
 obtain⟨A,c,h0,h1,h2,hrd,hk,hl,hc⟩:=h.open_
 have hcut:=hrd.cut (k:=k) (n:=bs.length) hk (by rw[jj];exact qc _)
 rw[qp (by simp[jj]),←qk7] at hcut
 have HC:=qa hcut
 have hdl:(bs.drop k).length=bs.length-k:=by simp
 have HV:=fun(m:Nat)=>qa (qjq (bs.drop k) (HC.out.drewN m))
 rw[hdl] at HV
 have h3:((qai (bs.drop k)).2.2==0)=true:=by
  rw[beq_iff_eq]
  unfold qdz at he
  split at he
  ·
   contradiction
  ·
   rename_i hn;exact Decidable.not_not.1 hn
 have h4:((qai (bs.drop k)).1:Int)≤most:=by
  unfold qdz at he
  split at he
  ·
   contradiction
  ·
   split at he <;> omega
 clear hcut hrd h he hdl
 generalize qai (bs.drop k)=V at *
 have h5:V.2.2=0:=by simpa using h3
 unfold cp
 go_enter Tryz.func94,Tryz.ntmps94
 go_wp2_with fail
 refine(yq H.out).mono ?_
 rintro e w' ⟨rfl,rfl⟩
 go_wp2_with fail
 go_quiet ((go_at_call 133;exact qjy (HV _).out))
 go_wp2
 all_goals go_ret2
 all_goals exact⟨rfl,_,rfl⟩
theorem peek_form{w:World}{lo g k:Nat}{bs:List UInt8}(most:Int)(h:xq w lo g bs k 0)(h3:(qai (bs.drop k)).2.2≠0) :
  Calls Tryz.prog 94 #[cp g,.int .i64 most] w fun r w'=>r= .returned (.tuple #[.int .i64 0,.int .i64 0])∧∃m,(w.drewN m).setCell ⟨g,2,none⟩ (.int .i64 (qai (bs.drop k)).2.2)=w':=by
 have H:=qa h
 obtain⟨A,c,h0,h1,h2,hrd,hk,hl,hc⟩:=h.open_
 have hcut:=hrd.cut (k:=k) (n:=bs.length) hk (by rw[jj];exact qc _)
 rw[qp (by simp[jj]),←qk7] at hcut
 have HC:=qa hcut
 have hdl:(bs.drop k).length=bs.length-k:=by simp
 have HV:=fun(m:Nat)=>qa (qjq (bs.drop k) (HC.out.drewN m))
 rw[hdl] at HV
 have h5:((qai (bs.drop k)).2.2==0)=false:=by simpa using h3
 have h6:((qai (bs.drop k)).2.2 != 0)=true:=by simpa using h3
 clear hcut hrd h hdl
 generalize qai (bs.drop k)=V at *
 unfold cp
 go_enter Tryz.func94,Tryz.ntmps94
 go_wp2_with fail
 refine(yq H.out).mono ?_
 rintro e w' ⟨rfl,rfl⟩
 go_wp2_with fail
 go_quiet ((go_at_call 133;exact qjy (HV _).out))
 go_wp2_with (go_at_call 127;refine(qg3 _ (H.out.drewN _)).mono ?_;rintro e w' ⟨rfl,rfl⟩)
 all_goals go_ret2
 all_goals exact⟨rfl,_,rfl⟩
theorem peek_above{w:World}{lo g k:Nat}{bs:List UInt8}(most:Int)(h:xq w lo g bs k 0)(h3:(qai (bs.drop k)).2.2=0)(h4:most<(qai (bs.drop k)).1) :
  Calls Tryz.prog 94 #[cp g,.int .i64 most] w fun r w'=>r= .returned (.tuple #[.int .i64 0,.int .i64 0])∧∃m,(w.drewN m).setCell ⟨g,2,none⟩ (.int .i64 3)=w':=by
 have H:=qa h
 obtain⟨A,c,h0,h1,h2,hrd,hk,hl,hc⟩:=h.open_
 have hcut:=hrd.cut (k:=k) (n:=bs.length) hk (by rw[jj];exact qc _)
 rw[qp (by simp[jj]),←qk7] at hcut
 have HC:=qa hcut
 have hdl:(bs.drop k).length=bs.length-k:=by simp
 have HV:=fun(m:Nat)=>qa (qjq (bs.drop k) (HC.out.drewN m))
 rw[hdl] at HV
 clear hcut hrd h hdl
 generalize qai (bs.drop k)=V at *
 unfold cp
 go_enter Tryz.func94,Tryz.ntmps94
 go_wp2_with fail
 refine(yq H.out).mono ?_
 rintro e w' ⟨rfl,rfl⟩
 go_wp2_with fail
 go_quiet ((go_at_call 133;exact qjy (HV _).out))
 go_wp2_with (go_at_call 127;refine(qg3 _ (H.out.drewN _)).mono ?_;rintro e w' ⟨rfl,rfl⟩)
 all_goals go_ret2
 all_goals exact⟨rfl,_,rfl⟩
def vy(bs:List UInt8)(k:Nat)(e most:Int):Nat×Nat×Int :=
 if e≠0 then (0,0,e) else if qdz bs k most≠0 then (0,0,qdz bs k most) else ((qai (bs.drop k)).1,(qai (bs.drop k)).2.1,0)
theorem qlh(bs:List UInt8):(qai bs).2.1≤bs.length:=by
 unfold qai
 have:=lead_le bs
 repeat' split
 all_goals (simp only[];omega)
theorem qj1(bs:List UInt8)(k:Nat)(e most:Int)(hk:k≤bs.length):k+(vy bs k e most).2.1≤bs.length:=by
 have:=qlh (bs.drop k)
 simp only[qv] at this
 unfold vy
 repeat' split
 all_goals (simp only[];omega)
theorem peek_any{w:World}{lo g k:Nat}{bs:List UInt8}{e:Int}(most:Int)(h:xq w lo g bs k e) :
  Calls Tryz.prog 94 #[cp g,.int .i64 most] w fun r w'=>r= .returned (.tuple #[.int .i64 ((vy bs k e most).1:Int),.int .i64 ((vy bs k e most).2.1:Int)])∧
   xq w' lo g bs k (vy bs k e most).2.2∧w.grownBy w' (some g):=by
 by_cases he:e=0
 ·
  subst he
  by_cases h3:(qai (bs.drop k)).2.2=0
  ·
   by_cases h4:most<((qai (bs.drop k)).1:Int)
   ·
    rw[show vy bs k 0 most=(0,0,3) from by simp[vy,qdz,h3,h4]]
    refine(peek_above most h h3 h4).mono ?_
    rintro r w' ⟨rfl,m,rfl⟩
    exact⟨rfl,(h.drewN m).setErr 3,yr (qak (yx w _) m) (.inl rfl) _⟩
   ·
    have h0:qdz bs k most=0:=by simp[qdz,h3];omega
    rw[show vy bs k 0 most=((qai (bs.drop k)).1,(qai (bs.drop k)).2.1,0) from by simp[vy,h0]]
    refine(peek_good most h h0).mono ?_
    rintro r w' ⟨rfl,m,rfl⟩
    exact⟨rfl,h.drewN m,qak (yx w _) m⟩
  ·
   rw[show vy bs k 0 most=(0,0,(qai (bs.drop k)).2.2) from by simp[vy,qdz,h3]]
   refine(peek_form most h h3).mono ?_
   rintro r w' ⟨rfl,m,rfl⟩
   exact⟨rfl,(h.drewN m).setErr _,yr (qak (yx w _) m) (.inl rfl) _⟩
 ·
  rw[show vy bs k e most=(0,0,e) from by simp[vy,he]]
  refine(peek_bad most h he).mono ?_
  rintro r w' ⟨rfl,rfl⟩
  exact⟨rfl,h,yx w _⟩
def z8(bs:List UInt8)(k:Nat)(e most:Int):Nat×Nat×Int:=((vy bs k e most).1,k+(vy bs k e most).2.1,(vy bs k e most).2.2)
theorem takeR_skip(bs:List UInt8)(k:Nat)(e most:Int)(hk:k≤bs.length) :
  z6 bs k (vy bs k e most).2.2 (vy bs k e most).2.1 0=([],(z8 bs k e most).2.1,(z8 bs k e most).2.2):=by
 have hs:=qj1 bs k e most hk
 by_cases h:(vy bs k e most).2.2=0
 ·
  unfold z8
  rw[h]
  have h2:¬((bs.length:Int)-k-((vy bs k e most).2.1:Int)<0):=by omega
  simp[z6,h2]
 ·
  have h1:(vy bs k e most).2.1=0:=by
   unfold vy at h ⊢
   repeat' split
   all_goals first | rfl | (rename_i a b;simp[a,b] at h)
  simp[z6,h,z8,h1]
theorem qcv{w:World}{lo g k:Nat}{bs:List UInt8}{e:Int}(most:Int)(h:xq w lo g bs k e) :
  Calls Tryz.prog 65 #[cp g,.int .i64 most] w fun r w'=>r= .returned (.int .i64 ((z8 bs k e most).1:Int))∧
   xq w' lo g bs (z8 bs k e most).2.1 (z8 bs k e most).2.2∧w.grownBy w' (some g):=by
 have hk:=h.le
 have HP:=qa (peek_any most h)
 have hs:=qj1 bs k e most hk
 have HT:=qa (takeR_skip bs k e most hk)
 have HE0:(z8 bs k e most).1=(vy bs k e most).1:=rfl
 have HE:=qa HE0
 clear h HE0
 generalize z8 bs k e most=M at *
 generalize vy bs k e most=R at *
 go_enter Tryz.func65,Tryz.ntmps65
 go_wp2_with fail
 refine HP.out.mono ?_
 rintro r w1 ⟨rfl,hc1,hg1⟩
 have HC:=qa hc1
 clear hc1
 go_wp2_with fail
 refine(qkn _ _ HC.out hs).mono ?_
 rintro r w2 ⟨A,c,rfl,hrd,hc2,hg2⟩
 rw[HT.out] at hc2
 clear hrd
 have HC2:=qa hc2
 clear hc2
 go_wp2_with fail
 go_ret
 exact⟨by rw[HE.out];rfl,HC2.out,hg1.trans hg2⟩
theorem ve{w:World}{lo g k:Nat}{bs:List UInt8}{e:Int}(x:Int)(h:xq w lo g bs k e) :
  Calls Tryz.prog 127 #[cp g,.int .i64 x] w fun r w'=>r= .returned (.tuple #[])∧xq w' lo g bs k (if e=0 then x else e)∧w.grownBy w' (some g):=by
 by_cases he:e=0
 ·
  subst he
  rw[if_pos rfl]
  refine(qg3 x h).mono ?_
  rintro r w' ⟨rfl,rfl⟩
  exact⟨rfl,h.setErr x,yr (yx w _) (.inl rfl) _⟩
 ·
  rw[if_neg he]
  refine(fail_bad x h he).mono ?_
  rintro r w' ⟨rfl,rfl⟩
  exact⟨rfl,h,yx w _⟩
theorem takeR_full(bs:List UInt8)(k:Nat)(e:Int)(s:Nat)(h:(z6 bs k e 0 (s:Int)).2.2=0):(z6 bs k e 0 (s:Int)).1.length=s:=by
 unfold z6 at h ⊢
 by_cases h1:e≠0
 ·
  rw[if_pos h1] at h;exact absurd h h1
 ·
  rw[if_neg h1] at h ⊢
  by_cases h2:(s:Int)<0
  ·
   omega
  ·
   rw[if_neg h2] at h ⊢
   by_cases h3:(bs.length:Int)-k-((0:Nat):Int)<s
   ·
    rw[if_pos h3] at h;simp at h
   ·
    rw[if_neg h3]
    simp only[qy,qv,kf]
    omega
theorem gb_more{a w w':World}{g x:Nat}(h:a.grownBy w (some g))(h2:w.grownBy w' (some x))(hx:a.heap.size≤x):a.grownBy w' (some g) :=
 ⟨h2.os.trans h.os,h2.tape.trans h.tape,h2.output.trans h.output,zc h.size h2.size,fun i hi hne =>
  (h2.block i (zh hi h.size) (fun e=>by injection e with e;omega)).trans (h.block i hi hne)⟩
theorem qa8(bs:List UInt8)(k n:Nat)(h:bs.length<k+n):z6 bs k 0 0 (n:Int)=([],k,2):=by
 have h1:¬((n:Int)<0):=by omega
 have h2:(bs.length:Int)-k-((0:Nat):Int)<n:=by omega
 unfold z6
 rw[if_neg (by simp),if_neg h1,if_pos h2]
theorem qa2(bs:List UInt8)(k n:Nat)(h:k+n≤bs.length):z6 bs k 0 0 (n:Int)=((bs.drop k).take n,k+n,0):=by
 have h1:¬((n:Int)<0):=by omega
 have h2:¬((bs.length:Int)-k-((0:Nat):Int)<n):=by omega
 unfold z6
 rw[if_neg (by simp),if_neg h1,if_neg h2]
 simp
theorem qbb(bs:List UInt8)(k:Nat)(e most:Int):(z8 bs k e most).1=0∨((z8 bs k e most).1:Int)≤most:=by
 unfold z8 vy
 by_cases he:e≠0
 ·
  rw[if_pos he];exact .inl rfl
 ·
  rw[if_neg he]
  by_cases hp:qdz bs k most≠0
  ·
   rw[if_pos hp];exact .inl rfl
  ·
   rw[if_neg hp]
   refine .inr ?_
   have h:qdz bs k most=0:=Decidable.not_not.1 hp
   unfold qdz at h
   split at h
   ·
    contradiction
   ·
    split at h
    ·
     omega
    ·
     simp only[];omega
theorem filled_any{w:World}(bs:List UInt8)(n:Nat)(hl:bs.length=(n+7)/8)(hn:n≤1000000000000){lo h':Nat}{A:Option Addr}{c:Nat}(h:Rd w lo h' A c (bv bs)) :
  Calls Tryz.prog 189 #[.slice A bs.length c,.int .i64 (n:Int)] w fun r w'=>r= .returned (.bool (decide (un bs<2 ^ n)))∧w=w':=by
 have hll:=h.len
 have hc:=h.cap
 rw[jj] at hll
 unfold maxLen at hc
 have H:=qa h
 clear h
 by_cases hr:n%8=0
 ·
  have HT:Hid (decide (un bs<2 ^ n)=true):=qx (filled_all bs n hl hr)
  have h8:((n:Int)%8==0)=true:=by rw[beq_iff_eq];omega
  have hlb:bs.length≤(n+7)/8:=Nat.le_of_eq hl
  clear hl hr
  go_enter Tryz.func189,Tryz.ntmps189
  go_wp2
  go_ret
  exact⟨yc HT.out.symm,rfl⟩
 ·
  have hp:0<bs.length:=by omega
  have HF:=qa (filled_iff bs n hl hr)
  have h8:((n:Int)%8==0)=false:=by rw[q9];omega
  have hlb:bs.length≤(n+7)/8:=Nat.le_of_eq hl
  obtain⟨b,off,rfl,_,_,hcell⟩:=H.out.byte (k:=bs.length-1) (by omega)
  rw[last_get bs hp] at hcell
  generalize bs.getLastD 0=x8 at *
  have hx:=je x8
  generalize x8.toNat=x at *
  clear hl
  go_enter Tryz.func189,Tryz.ntmps189
  go_wp2
  go_ret
  refine⟨yc ?_,rfl⟩
  have e:(x:Int)/2 ^ (n%8)=((x/2 ^ (n%8):Nat):Int):=by push_cast;rfl
  rw[e,Bool.eq_iff_iff,beq_iff_eq,decide_eq_true_iff,←HF.out]
  omega
def qbk(bs:List UInt8)(n wd k:Nat)(e:Int):List Nat×Nat×Int :=
 if e≠0 then ([],k,e) else if wd=wide (jf (qas bs wd n))∧un bs<2 ^ (n*wd) then (qas bs wd n,k,0) else ([],k,3)
def qdr(wd:Nat)(e:Int):Int:=if wd≤32 then e else if e=0 then 3 else e
def qcd(bs:List UInt8)(n wd k:Nat)(e:Int):List Nat×Nat×Int :=
 qbk (z6 bs k (qdr wd e) 0 (((n*wd+7)/8:Nat):Int)).1 n wd (z6 bs k (qdr wd e) 0 (((n*wd+7)/8:Nat):Int)).2.1 (z6 bs k (qdr wd e) 0 (((n*wd+7)/8:Nat):Int)).2.2
def ue(bs:List UInt8)(k:Nat)(e most:Int):List Nat×Nat×Int :=
 qcd bs (z8 bs k e (min most 2147483647)).1 ((z6 bs (z8 bs k e (min most 2147483647)).2.1 (z8 bs k e (min most 2147483647)).2.2 0 1).1.headD 0).toNat
  (z6 bs (z8 bs k e (min most 2147483647)).2.1 (z8 bs k e (min most 2147483647)).2.2 0 1).2.1 (z6 bs (z8 bs k e (min most 2147483647)).2.1 (z8 bs k e (min most 2147483647)).2.2 0 1).2.2
theorem width_len{w:World}(zs:List Int)(n:Nat)(hz:qjg zs){lo h':Nat}{A:Option Addr}{c:Nat}(h:Rd w lo h' A c (iv zs))(hn:zs.length=n) :
  Calls Tryz.prog 156 #[.slice A n c] w fun r w'=>r= .returned (.int .i64 (wide zs:Int))∧w=w':=by
 subst hn
 exact width_any zs hz h
def Upto(bs:List UInt8)(wd n k:Nat)(xs:List Value):Prop:=xs.length=n∧∀j,j<k→xs[j]? = some (.int .i64 (qgr bs wd j:Int))
theorem upto_all{bs:List UInt8}{wd n:Nat}{xs:List Value}(h:Upto bs wd n n xs):xs=iv (jf (qas bs wd n)):=by
 apply qcp
 intro j
 by_cases hj:j<n
 ·
  rw[h.2 j hj]
  have:=getsN_get bs wd n j hj
  simp[iv,jf,this]
 ·
  rw[jp (by rw[h.1];omega),jp (by rw[yd,zq,qb0];omega)]
theorem upto_succ{bs:List UInt8}{wd n k:Nat}{xs:List Value}(h:Upto bs wd n k xs)(hk:k<n):Upto bs wd n (k+1) (xs.set k (.int .i64 (qgr bs wd k:Int))):=by
 refine⟨by rw[xv];exact h.1,fun j hj => ?_⟩
 by_cases e:j=k
 ·
  subst e
  rw[qbw (by rw[h.1];exact hk)]
 ·
  rw[qa6 (by omega)]
  exact h.2 j (by omega)
theorem ints_word{ns:List Nat}(h:∀x∈ns,x<4294967296):qjg (jf ns):=by
 intro z hz
 obtain⟨x,hx,rfl⟩:=za.1 hz
 have:=h x hx
 omega
theorem qlp{w:World}{lo g k:Nat}{bs:List UInt8}{e:Int}(most:Int)(h:xq w lo g bs k e)(hb:bs.length≤1000000000000) :
  Calls Tryz.prog 162 #[cp g,.int .i64 most] w fun r w'=>∃A c,r= .returned (.slice A (ue bs k e most).1.length c)∧w'.ownsRow w.heap.size 3 1 (.slice A (ue bs k e most).1.length c) (ue bs k e most).1.length (iv (jf (ue bs k e most).1))∧
   xq w' lo g bs (ue bs k e most).2.1 (ue bs k e most).2.2∧w.grownBy w' (some g):=by
 have hgl:=h.lt
 have HM:=qa (qcv (min most 2147483647) h)
 have hmle:=qbb bs k e (min most 2147483647)
 unfold ue
 generalize z8 bs k e (min most 2147483647)=M at *
 obtain⟨n,k1,e1⟩:=M
 dsimp only at HM hmle ⊢
 have hn:n≤2147483647:=by omega
 have HBY:=fun(w1:World) (h1:xq w1 lo g bs k1 e1)=>qa (qk6 h1)
 generalize z6 bs k1 e1 0 1=T at *
 obtain⟨tb,k2,e2⟩:=T
 dsimp only at HBY ⊢
 have hwd256:(tb.headD 0).toNat<256:=je _
 generalize (tb.headD 0).toNat=wd at *
 clear h hmle
 go_enter Tryz.func162,Tryz.ntmps162
 go_wp2_with fail
 refine HM.out.mono ?_
 rintro r w1 ⟨rfl,hc1,hg1⟩
 have HC1:=qa hc1
 have HG1:=qa hg1
 have s1:=hg1.size
 clear hc1 hg1
 go_wp2_with fail
 refine(HBY w1 HC1.out).out.mono ?_
 rintro r w2 ⟨rfl,hc2,hg2⟩
 have HC2:=qa hc2
 have HG2:=qa (HG1.out.trans hg2)
 have s2:=hg2.size
 clear hc2 hg2
 by_cases hw:wd≤32
 ·
  have HR:Hid (qic (wd:Int)=true):=qx (by omega)
  have hP:(n:Int)*(wd:Int)=((n*wd:Nat):Int):=(qan n wd).symm
  have hPb:n*wd≤2147483647*32:=ug hn hw
  have HMID:Hid (qcd bs n wd k2 e2=qbk (z6 bs k2 e2 0 (((n*wd+7)/8:Nat):Int)).1 n wd (z6 bs k2 e2 0 (((n*wd+7)/8:Nat):Int)).2.1 (z6 bs k2 e2 0 (((n*wd+7)/8:Nat):Int)).2.2):=by
   unfold Hid qcd qdr
   rw[if_pos hw]
  generalize hs:(n*wd+7)/8=s at HMID
  have HS:=qa hs
  have hsb:s≤2147483647*5:=by omega
  clear hs
  go_wp2_with fail
  refine(qfz _ true HR.out).mono ?_
  rintro r w' ⟨rfl,rfl⟩
  go_wp2_with fail
  refine(size_is n wd s (by omega) HS.out).mono ?_
  rintro r w' ⟨rfl,rfl⟩
  go_wp2_with fail
  refine(qdg (s:Int) HC2.out (by omega)).mono ?_
  have hT:=takeR_full bs k2 e2 s
  generalize z6 bs k2 e2 0 (s:Int)=U at *
  obtain⟨ub,k4,e4⟩:=U
  dsimp only at hT ⊢
  rintro r w4 ⟨A4,c4,rfl,ho4,hc4,hg4⟩
  have HO4:=qa ho4
  have HC4:=qa hc4
  have HG4:=qa (HG2.out.trans hg4)
  have s4:=hg4.size
  clear ho4 hc4 hg4
  by_cases he:e4=0
  ·
   subst he
   have hul:ub.length=s:=hT rfl
   have HUL:=qa hul
   have hulb:ub.length≤s:=Nat.le_of_eq hul
   clear hT hul
   obtain⟨w5,hmake,ho5,hg5⟩:=qg0 w4 n (by omega)
   have HR5:=qa ((Rd.own HO4.out).grown hg5 (qc _) (by simp))
   have HC5:=qa (HC4.out.grown hg5 (by simp))
   have HG5:=qa (HG4.out.trans (qev hg5))
   have HO5:=qa ho5
   have s5:=hg5.size
   have hg4l:=HC4.out.lt
   clear ho5 hg5
   go_wp2_with fail
   refine(yq HC4.out).mono ?_
   rintro r w' ⟨rfl,rfl⟩
   go_wp2_with fail
   go_loopw [32] (fun i wr=>∃(j:Nat) (xs:List Value),j≤n∧i= .int .i64 (j:Int)∧wr.ownsRow w4.heap.size 3 1 (.slice (some ⟨w4.heap.size,0,none⟩) n n) n xs∧Upto ub wd n j xs∧w5.grownBy wr (some w4.heap.size)) (fun i _=>n-(intOf i).toNat)
   case atStart=>exact⟨0,_,qj _,rfl,HO5.out,⟨by simp,fun j hj=>by omega⟩,yx _ _⟩
   case round =>
    obtain⟨j,xs,hj,rfl,ho6,hup,hg6⟩:=hrel
    have HO6:=qa ho6
    have HUP:=qa hup
    have HG6:=qa hg6
    have s6:=hg6.size
    have HR6:=qa (HR5.out.grown hg6 s5 (fun x hx=> .inr (by injection hx with hx;omega)))
    clear ho6 hup hg6
    by_cases hlt:j<n
    ·
     have hfr:=HO6.out.frozenAt j
     have hxj:j<xs.length:=by rw[HUP.out.1];exact hlt
     have hcell:wr.cell? ⟨w4.heap.size,j,none⟩=some xs[j]:=by
      rw[HO6.out.cellAt j (by omega),qe hxj]
     have HST:=fun(q:Nat) (u:Value)=>qa (World.ownsRow.stored (w:=wr.drewN q) HO6.out j u)
     generalize xs[j]=x0 at *
     go_wp2_with fail
     refine(pget_any ub wd j hw (by omega) (by omega) HR6.out).mono ?_
     rintro r w7 ⟨rfl,q,rfl⟩
     go_wp2
     go_roundw
     case rel =>
      refine⟨j+1,_,by omega,by go_num,(HST q _).out.1,upto_succ HUP.out hlt,?_⟩
      exact(qak HG6.out q).trans (HST q _).out.2
     case measure=>simp[intOf];omega
    ·
     obtain rfl:j=n:=by omega
     have hall:=upto_all HUP.out
     have hoL:=HO6.out
     rw[hall] at hoL
     have HOL:=qa hoL
     have HC6:=qa (HC5.out.grown HG6.out (fun x hx=> .inr (by injection hx with hx;omega)))
     have HG7:=qa (gb_more HG5.out HG6.out (by omega))
     have hlen:(jf (qas ub wd j)).length=j:=by rw[zq,qb0]
     have HLEN:=qa hlen
     have HWO:=qa (ints_word (ns:=qas ub wd j) (fun x hx=>by
      have h1:=getsN_lt ub wd j x hx
      have h2:2 ^ wd≤2 ^ 32:=yb (by omega) hw
      omega))
     have HWD:=qa (width_len (w:=wr) _ j HWO.out (Rd.own HOL.out) hlen)
     have HFI:=qa (filled_any (w:=wr) ub (j*wd) (by rw[HUL.out,HS.out]) (by omega) HR6.out)
     have hgl2:(qas ub wd j).length=j:=qb0 _ _ _
     have HGL:=qa hgl2
     clear hall hoL hlen hgl2 hmake
     generalize hP2:j*wd=P at *
     have HPP:=qa hP2
     clear hP2
     by_cases hwd:wd=wide (jf (qas ub wd j))
     ·
      have hne:((wd:Int) != (wide (jf (qas ub wd j)):Int))=false:=by rw[←hwd];simp
      by_cases hfl:un ub<2 ^ P
      ·
       have HE:Hid (qcd bs j wd k2 e2=(qas ub wd j,k4,0)):=by
        unfold Hid
        rw[HMID.out]
        unfold qbk
        rw[if_neg (by simp),HPP.out,if_pos ⟨hwd,hfl⟩]
       have HFT:=qa (qx hfl)
       rw[HFT.out] at HFI
       clear hfl hwd
       generalize wide (jf (qas ub wd j))=wl at *
       go_wp2_with (first
        | (go_at_call 156;refine HWD.out.mono ?_;rintro r w' ⟨rfl,rfl⟩)
        | (go_at_call 189;refine HFI.out.mono ?_;rintro r w' ⟨rfl,rfl⟩))
       go_ret
       rw[HE.out]
       exact⟨_,_,by rw[HGL.out];rfl,by rw[HGL.out];exact j9 HOL.out (by omega),HC6.out,HG7.out⟩
      ·
       have HE:Hid (qcd bs j wd k2 e2=([],k4,3)):=by
        unfold Hid
        rw[HMID.out]
        unfold qbk
        rw[if_neg (by simp),HPP.out,if_neg (fun h=>hfl h.2)]
       have HFT:=qa (qw hfl)
       rw[HFT.out] at HFI
       clear hfl hwd
       generalize wide (jf (qas ub wd j))=wl at *
       go_wp2_with (first
        | (go_at_call 156;refine HWD.out.mono ?_;rintro r w' ⟨rfl,rfl⟩)
        | (go_at_call 189;refine HFI.out.mono ?_;rintro r w' ⟨rfl,rfl⟩)
        | (go_at_call 127;refine(ve 3 HC6.out).mono ?_;rintro r w8 ⟨rfl,hc8,hg8⟩;have HC8:=qa hc8;have HG8:=qa hg8;clear hc8 hg8))
       go_ret
       rw[HE.out]
       exact⟨none,0,rfl,zj ..,by simpa using HC8.out,HG7.out.trans HG8.out⟩
     ·
      have hne:((wd:Int) != (wide (jf (qas ub wd j)):Int))=true:=by rw[bne_iff_ne];omega
      have HE:Hid (qcd bs j wd k2 e2=([],k4,3)):=by
       unfold Hid
       rw[HMID.out]
       unfold qbk
       rw[if_neg (by simp),if_neg (fun h=>hwd h.1)]
      clear hwd
      generalize wide (jf (qas ub wd j))=wl at *
      go_wp2_with (first
       | (go_at_call 156;refine HWD.out.mono ?_;rintro r w' ⟨rfl,rfl⟩)
       | (go_at_call 127;refine(ve 3 HC6.out).mono ?_;rintro r w8 ⟨rfl,hc8,hg8⟩;have HC8:=qa hc8;have HG8:=qa hg8;clear hc8 hg8))
      go_ret
      rw[HE.out]
      exact⟨none,0,rfl,zj ..,by simpa using HC8.out,HG7.out.trans HG8.out⟩
  ·
   have HE:Hid (qcd bs n wd k2 e2=([],k4,e4)):=by
    unfold Hid
    rw[HMID.out]
    unfold qbk
    rw[if_pos he]
   have he':(e4==0)=false:=by simpa using he
   have HGD:=qa (yq HC4.out)
   rw[he'] at HGD
   clear hT he he'
   go_wp2_with fail
   refine HGD.out.mono ?_
   rintro r w' ⟨rfl,rfl⟩
   go_wp2
   go_ret
   rw[HE.out]
   exact⟨none,0,rfl,zj ..,HC4.out,HG4.out⟩
 ·
  have HR:Hid (qic (wd:Int)=false):=qw (by omega)
  have hP:(n:Int)*(wd:Int)=((n*wd:Nat):Int):=(qan n wd).symm
  have hPb:n*wd≤2147483647*255:=ug hn (by omega)
  obtain⟨e3,he3⟩:∃e3,e3=if e2=0 then (3:Int) else e2:=⟨_,rfl⟩
  have he30:e3≠0:=by rw[he3];split <;> omega
  have HE:Hid (qcd bs n wd k2 e2=([],k2,e3)):=by
   unfold Hid qcd qdr
   rw[if_neg hw,←he3,qa3 _ _ _ _ _ he30]
   unfold qbk
   rw[if_pos he30]
  generalize hs:(n*wd+7)/8=s
  have HS:=qa hs
  have HT:=qa (qa3 bs k2 e3 0 (s:Int) he30)
  have hbe:(e3==0)=false:=by simpa using he30
  have HBE:=qa hbe
  have HE3:=qa he3
  clear hs he30 hbe he3
  go_wp2_with fail
  refine(qfz _ false HR.out).mono ?_
  rintro r w' ⟨rfl,rfl⟩
  go_wp2_with fail
  refine(ve 3 HC2.out).mono ?_
  rintro r w3 ⟨rfl,hc3,hg3⟩
  rw[←HE3.out] at hc3
  have HC3:=qa hc3
  have HG3:=qa (HG2.out.trans hg3)
  clear hc3 hg3
  go_wp2_with fail
  refine(size_is n wd s (by omega) HS.out).mono ?_
  rintro r w' ⟨rfl,rfl⟩
  go_wp2_with fail
  refine(qdg (s:Int) HC3.out (by omega)).mono ?_
  rw[HT.out]
  rintro r w4 ⟨A4,c4,rfl,ho4,hc4,hg4⟩
  have HC4:=qa hc4
  have HG4:=qa (HG3.out.trans hg4)
  have HGD:=qa (yq hc4)
  rw[HBE.out] at HGD
  clear ho4 hc4 hg4
  go_wp2_with fail
  refine HGD.out.mono ?_
  rintro r w' ⟨rfl,rfl⟩
  go_wp2
  go_ret
  rw[HE.out]
  exact⟨none,0,rfl,zj ..,HC4.out,HG4.out⟩
end Go.Proofs.YtjfecojdagmacaaGreat
