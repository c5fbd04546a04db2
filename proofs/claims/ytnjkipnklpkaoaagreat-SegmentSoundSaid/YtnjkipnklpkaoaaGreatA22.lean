/-
  Lemmas.
-/
import Derived.Test.YtnjkipnklpkaoaaGreatA16
import Derived.Test.YtnjkipnklpkaoaaGreatA21
import Derived.Deep.RegionHeld
namespace Go.Proofs.YtnjkipnklpkaoaaGreat
open Go.RowKit
set_option maxRecDepth 20000
set_option maxHeartbeats 16000000
set_option linter.unusedSimpArgs false
set_option linter.unusedVariables false
theorem qqk{cols:Int}{gs:List (List (List Vl))}:qpl cols gs=true↔(1≤cols∧cols≤8∧ki gs≤4096)∧∀g∈gs,0<g.length∧∀r∈g,(r.length:Int)=cols:=by
 unfold qpl badG
 rw[jl,decide_eq_true_eq,Bool.not_eq_true',List.any_eq_false]
 constructor
 ·
  rintro⟨h1,h2⟩
  refine⟨h2,fun g hg => ?_⟩
  have h3:=h1 g hg
  simp only[Bool.or_eq_true,decide_eq_true_eq,kv,not_or,not_exists,not_and,Decidable.not_not] at h3
  exact⟨by omega,fun r hr=>h3.2 r hr⟩
 ·
  rintro⟨h2,h1⟩
  refine⟨fun g hg => ?_,h2⟩
  obtain⟨h3,h4⟩:=h1 g hg
  simp only[Bool.or_eq_true,decide_eq_true_eq,kv,not_or,not_exists,not_and,Decidable.not_not]
  exact⟨by omega,fun r hr=>h4 r hr⟩
theorem rightG_of{cols:Int}{gs:List (List (List Vl))}{os:List Co}{bits:Int}(h1:qpl cols gs=true)(h2:(os.length:Int)=cols)(h3:(∀o∈os,qa3 o)∧0≤bits∧bits≤65536)(h4:∀g∈gs,∀k,k<os.length→kj (vg g k)):jaa cols gs os bits:=by
 obtain⟨⟨a1,a2,a3⟩,a4⟩:=qqk.1 h1
 refine⟨a1,a2,h2,h3.2.1,h3.2.2,h3.1,a3,fun g hg=>⟨(a4 g hg).1,fun r hr => ?_,h4 g hg⟩⟩
 have:=(a4 g hg).2 r hr
 omega
theorem right_fits{cols:Int}{gs:List (List (List Vl))}{os:List Co}{bits:Int}(h:jaa cols gs os bits):qpl cols gs=true:=by
 obtain⟨a1,a2,a3,a4,a5,a6,a7,a8⟩:=h
 refine qqk.2 ⟨⟨a1,a2,a7⟩,fun g hg=>⟨(a8 g hg).1,fun r hr => ?_⟩⟩
 have:=(a8 g hg).2.1 r hr
 omega
theorem rise_ex:∀L:List Nat,∃t,Rise L t
 | []=>⟨[],List.Pairwise.nil,fun _=>Iff.rfl⟩
 | a :: L=>by
  obtain⟨t,h1,h2⟩:=rise_ex L
  refine⟨t.filter (· < a)++a :: t.filter (a < ·),?_,fun x => ?_⟩
  ·
   refine List.pairwise_append.2 ⟨h1.filter _,List.pairwise_cons.2 ⟨fun x hx=>of_decide_eq_true (List.mem_filter.1 hx).2,h1.filter _⟩,fun x hx y hy => ?_⟩
   have h3:x<a:=of_decide_eq_true (List.mem_filter.1 hx).2
   rcases jc.1 hy with rfl | hy
   ·
    exact h3
   ·
    have h4:a<y:=of_decide_eq_true (List.mem_filter.1 hy).2
    omega
  ·
   rw[zt,jc,List.mem_filter,List.mem_filter,decide_eq_true_eq,decide_eq_true_eq,jc,h2 x]
   constructor
   ·
    rintro(h | h | h)
    ·
     exact .inr h.1
    ·
     exact .inl h
    ·
     exact .inr h.1
   ·
    rintro(h | h)
    ·
     exact .inr (.inl h)
    ·
     rcases qa1 x a with h5 | h5 | h5
     ·
      exact .inl ⟨h,h5⟩
     ·
      exact .inr (.inl h5)
     ·
      exact .inr (.inr ⟨h,h5⟩)
def qkx(gs:List (List (List Vl)))(os:List Co):Prop:=∀g∈gs,∀k,k<os.length→yu (qw (vg g k)) (qdj os k)=2→yy (uc (qw (vg g k)) (qdj os k))=true
def CodeG(gs:List (List (List Vl)))(os:List Co):Prop:=(∀o∈os,qa3 o→qnk [] o)∧∀g∈gs,∀k,k<os.length→kj (vg g k)→qnk (qw (vg g k)) (qdj os k)
set_option maxRecDepth 100000 in
set_option maxHeartbeats 16000000 in
theorem qgy{w:World}{gs:List (List (List Vl))}{os:List Co}{A B:Option Addr}{c d:Nat}(cols bits:Int)(h:qax w 0 w.heap.size A c gs)(ho:qbu w 0 w.heap.size B d os)(hF:FewSg gs os)(hC:CodeG gs os) :
  Calls Tryz.prog 11 #[.int .i64 cols,.slice A gs.length c,.slice B os.length d,.int .i64 bits] w fun r w'=>Below w.heap.size w w'∧
   ((jaa cols gs os bits∧qkx gs os∧∃A' c',r= .returned (.tuple #[.slice A' (kr (qgh os bits.toNat gs)).length c',.int .i64 0])∧w'.ownsRow w.heap.size 5 1 (.slice A' (kr (qgh os bits.toNat gs)).length c') (kr (qgh os bits.toNat gs)).length (bv (kr (qgh os bits.toNat gs))))∨
    (¬jaa cols gs os bits∧r= .returned (.tuple #[.slice none 0 0,.int .i64 1]))):=by
 obtain⟨hl,hm⟩:=h.len
 obtain⟨hl2,hm2⟩:=ho.len
 have H:Hid (∀W,Below w.heap.size w W→qax W 0 W.heap.size A c gs):=fun W hW=>(h.below hW (qc _)).wide (qc _) hW.size
 have HO:Hid (∀W,Below w.heap.size w W→qbu W 0 W.heap.size B d os):=fun W hW=>(ho.below hW (qc _)).wide (qc _) hW.size
 have HFW:=qa hF
 have HCG:=qa hC
 have hg40:=hF.groups
 have ho12:=hF.cods
 have HFI:=qa (sgfits_v (w:=w) h cols (by have:=hF.rows;omega))
 have HRI:Hid (∀W,Below w.heap.size w W→Calls Tryz.prog 31 #[.slice B os.length d,.int .i64 bits] W fun r w'=>r= .returned (.bool (decide ((∀o∈os,qa3 o)∧0≤bits∧bits≤65536)))∧Below W.heap.size W w'):=fun W hW=>sgright_v (HO.out W hW) bits (fun o ho=>by have:=hF.draws o ho;omega) hC.1
 clear h ho hF hC
 by_cases hfi:qpl cols gs=true
 case neg =>
  have HNR:Hid (¬jaa cols gs os bits):=fun h=>hfi (right_fits h)
  rw[show qpl cols gs=false from by simpa using hfi] at HFI
  clear hfi
  go_enter Tryz.func11,Tryz.ntmps11
  go_wp2_with fail
  refine HFI.out.mono ?_
  rintro r w1 ⟨rfl,hb1⟩
  have B1:=qa hb1
  clear hb1
  go_wp2_with fail
  go_ret2
  exact⟨B1.out,.inr ⟨HNR.out,rfl⟩⟩
 case pos =>
 rw[hfi] at HFI
 have HFG:=qa hfi
 clear hfi
 by_cases hcl:(os.length:Int)=cols
 case neg =>
  have HNR:Hid (¬jaa cols gs os bits):=fun h=>hcl h.2.2.1
  have hne:((os.length:Int) != cols)=true:=by simpa using hcl
  clear hcl
  go_enter Tryz.func11,Tryz.ntmps11
  go_wp2_with fail
  refine HFI.out.mono ?_
  rintro r w1 ⟨rfl,hb1⟩
  have B1:=qa hb1
  clear hb1
  go_wp2_with fail
  go_ret2
  exact⟨B1.out,.inr ⟨HNR.out,rfl⟩⟩
 case pos =>
 have hne:((os.length:Int) != cols)=false:=by simpa using hcl
 by_cases hri:(∀o∈os,qa3 o)∧0≤bits∧bits≤65536
 case neg =>
  have HNR:Hid (¬jaa cols gs os bits):=fun h=>hri ⟨h.2.2.2.2.2.1,h.2.2.2.1,h.2.2.2.2.1⟩
  rw[ql hri] at HRI
  clear hcl hri
  go_enter Tryz.func11,Tryz.ntmps11
  go_wp2_with fail
  refine HFI.out.mono ?_
  rintro r w1 ⟨rfl,hb1⟩
  have B1:=qa hb1
  have HR1:=qa (HRI.out w1 hb1)
  clear hb1
  go_wp2_with fail
  refine HR1.out.mono ?_
  rintro r w2 ⟨rfl,hb2⟩
  have B2:Hid (Below w.heap.size w w2):=B1.out.trans (hb2.mono B1.out.size)
  clear hb2
  go_wp2_with fail
  go_ret2
  exact⟨B2.out,.inr ⟨HNR.out,rfl⟩⟩
 case pos =>
 rw[qp hri] at HRI
 obtain⟨nb,hnb⟩:∃nb:Nat,bits=(nb:Int):=⟨bits.toNat,by omega⟩
 have hnb6:nb≤65536:=by omega
 subst hnb
 obtain⟨n,hn⟩:∃n,os.length=n:=⟨_,rfl⟩
 have HN:=qa hn
 have HCOK:=qa hri.1
 have HRG:Hid ((∀g∈gs,∀k,k<os.length→kj (vg g k))→jaa cols gs os (nb:Int)):=fun h=>rightG_of HFG.out hcl hri h
 have hcn:cols=(n:Int):=by rw[←hcl,hn]
 subst hcn
 obtain⟨⟨a1,a2,a3⟩,a4⟩:=qqk.1 HFG.out
 have hn8:n≤8:=by omega
 have HWD:Hid (∀i (hi:i<gs.length),0<gs[i].length∧∀r∈gs[i],r.length=n):=fun i hi=>⟨(a4 _ (qj hi)).1,fun r hr=>by have:=(a4 _ (qj hi)).2 r hr;omega⟩
 have HCG2:Hid (∀i (hi:i<gs.length),∀k,k<n→kj (vg gs[i] k)→qnk (qw (vg gs[i] k)) (qdj os k)):=fun i hi k hk=>HCG.out.2 _ (qj hi) k (by omega)
 have HPU1:Hid (∀W,Calls Tryz.prog 32 #[.int .i64 (n:Int)] W fun r w'=>∃A c,r= .returned (.slice A (jo n).length c)∧w'.ownsRow W.heap.size 5 1 (.slice A (jo n).length c) (jo n).length (bv (jo n))∧Below W.heap.size W w'):=fun W=>qgl (w:=W) n (by omega)
 have HPU2:Hid (∀W,Calls Tryz.prog 32 #[.int .i64 (gs.length:Int)] W fun r w'=>∃A c,r= .returned (.slice A (jo gs.length).length c)∧w'.ownsRow W.heap.size 5 1 (.slice A (jo gs.length).length c) (jo gs.length).length (bv (jo gs.length))∧Below W.heap.size W w'):=fun W=>qgl (w:=W) gs.length (by omega)
 have hp1:=qew n (by omega)
 have hp2:=qew gs.length (by omega)
 rw[vf]
 obtain⟨SG,hSG⟩:∃SG,qgh os nb gs=SG:=⟨_,rfl⟩
 rw[hSG]
 have HSG:Hid (jo n++jo gs.length++qb4 os nb gs=SG):=by unfold Hid;rw[←hSG,qgh,hn]
 obtain⟨sl,hsl⟩:∃sl,(kr SG).length=sl:=⟨_,rfl⟩
 rw[hsl]
 have HSLN:=qa hsl
 rw[hn] at hne hl2 HRI
 rw[hn]
 clear hsl hcl hri a1 a2 a3 a4 hn hSG HCG
 go_enter Tryz.func11,Tryz.ntmps11
 go_wp2_with fail
 refine HFI.out.mono ?_
 rintro r v1 ⟨rfl,hbv1⟩
 have BV1:=qa hbv1
 have HR1:=qa (HRI.out v1 hbv1)
 clear hbv1 HFI HRI
 go_wp2_with fail
 refine HR1.out.mono ?_
 rintro r v2 ⟨rfl,hbv2⟩
 have BV2:Hid (Below w.heap.size w v2):=BV1.out.trans (hbv2.mono BV1.out.size)
 have hsv2:=BV2.out.size
 have HP1:=qa (HPU1.out v2)
 clear hbv2 HR1 BV1
 go_wp2_with fail
 refine HP1.out.mono ?_
 rintro r w1 ⟨A1,c1,rfl,ho1,hb1⟩
 have HP2:=qa (HPU2.out w1)
 have HO1:=qa (j4 ho1 hsv2)
 have HB1:Hid (Below w.heap.size w w1):=BV2.out.trans (hb1.mono hsv2)
 have hs1:=HB1.out.size
 clear ho1 hb1 HPU1 HPU2 HP1
 go_wp2_with fail
 refine HP2.out.mono ?_
 rintro r w2 ⟨A2,c2,rfl,ho2,hb2⟩
 obtain⟨p0,hp0⟩:∃p0,(jo n).length+(jo gs.length).length=p0:=⟨_,rfl⟩
 obtain⟨HD,hHD⟩:∃HD,jo n++jo gs.length=HD:=⟨_,rfl⟩
 have hp18:p0≤18:=by omega
 obtain⟨A3,c3,w3,hrun3,ho3,hb3, -, -⟩:=qf4 HO1.out rfl hs1 hb2 ho2 rfl hHD hp0 (by omega)
 have hs2:=hb2.size
 have HB3:Hid (Below w.heap.size w w3):=(HB1.out.trans (hb2.mono hs1)).trans hb3
 have HO3:=qa ho3
 have HDL:Hid (HD.length=p0):=by unfold Hid;rw[←hHD,qd,hp0]
 rw[hHD] at HSG
 clear ho2 hb2 ho3 hb3 HO1 HP2 HB1 hHD hp0
 generalize (jo n).length=y1 at *
 generalize (jo gs.length).length=y2 at *
 go_wp2_with (at_builtin;refine wpList_append_run rfl _ _ _ _ rfl rfl rfl hrun3 ?_)
 clear hrun3
 go_loopw [10,40] (fun x10 x40 wr=>∃(g p:Nat) (A':Option Addr) (c':Nat),g≤gs.length∧x40= .int .i64 (g:Int)∧x10= .slice A' p c'∧Hid ((HD++qb4 os nb (gs.take g)).length=p)∧PA g p∧Hid (wr.ownsRow w.heap.size 5 1 (.slice A' p c') p (bv (HD++qb4 os nb (gs.take g))))∧Hid (∀i (hi:i<gs.length),i<g→∀k,k<n→kj (vg gs[i] k)∧(yu (qw (vg gs[i] k)) (qdj os k)=2→yy (uc (qw (vg gs[i] k)) (qdj os k))=true))∧Below w.heap.size w wr) (fun _ x40 _=>gs.length-(intOf x40).toNat)
 case atStart=>exact⟨0,p0,A3,c3,qi _,rfl,rfl,by unfold Hid;rw[y8,show qb4 os nb []=[] from rfl,jj];exact HDL.out,PA.zero hp18,by unfold Hid;rw[y8,show qb4 os nb []=[] from rfl,jj];exact HO3.out,(fun i _ hi=>absurd hi (jp i)),HB3.out⟩
 case round =>
  clear HO3 HB3 HDL
  obtain⟨g,p,A',c',hg,rfl,rfl,HP,hpb,HOW,HT,hb⟩:=hrel
  obtain⟨wg,hwg⟩:∃wg,wg=wr:=⟨_,rfl⟩
  subst hwg
  have HBG:=qa hb
  have hszg:=hb.size
  clear hb
  by_cases hgl:g<gs.length
  ·
   have ig:(g:Int)<(gs.length:Int):=by omega
   have ig0:(0:Int)≤(g:Int):=by omega
   obtain⟨b,off,Ag,cg,rfl,_,hbl,hcell,hrows⟩:=(H.out w (Below.refl _ _)).get hgl
   obtain⟨hrl,hrm⟩:=hrows.len
   have HRW:Hid (∀W,Below w.heap.size w W→vr W 0 W.heap.size Ag cg gs[g]):=fun W hW=>(hrows.below hW (qc _)).wide (qc _) hW.size
   have HGT:=qa (qkl (os:=os) (b:=nb) hgl)
   have HWG:=qa (HWD.out g hgl)
   have HCC:=qa (HCG2.out g hgl)
   have HNX:Hid ((∀k,k<n→kj (vg gs[g] k)∧(yu (qw (vg gs[g] k)) (qdj os k)=2→yy (uc (qw (vg gs[g] k)) (qdj os k))=true))→∀i (hi:i<gs.length),i<g+1→∀k,k<n→kj (vg gs[i] k)∧(yu (qw (vg gs[i] k)) (qdj os k)=2→yy (uc (qw (vg gs[i] k)) (qdj os k))=true)):=fun hh i hi hig k hk=>by
    by_cases e:i=g
    ·
     subst e;exact hh k hk
    ·
     exact HT.out i hi (by omega) k hk
   have HNR:Hid (∀k,k<n→¬kj (vg gs[g] k)→¬jaa (n:Int) gs os (nb:Int)):=fun k hk hnf hR=>hnf ((hR.2.2.2.2.2.2.2 _ (qj hgl)).2.2 k (by rw[HN.out];exact hk))
   have hrn:gs[g].length≤60:=by
    have h1:=qfz hgl
    have h2:=qjo gs (g+1)
    have h3:=HFW.out.rows
    omega
   have hbn:qhu gs[g]≤3000:=by
    have h1:=qp4 hgl
    have h2:qjb (gs.take (g+1))≤qjb gs:=by
     have h:qjb gs=qjb (gs.take (g+1))+qjb (gs.drop (g+1)):=by
      unfold qjb
      rw[←qbe,←jg,zx]
     omega
    have h3:=HFW.out.bytes
    omega
   obtain⟨G,hG⟩:∃G,gs[g]=G:=⟨_,rfl⟩
   rw[hG] at hcell hrl HRW HGT HWG HCC HNX HNR hrn hbn
   have HBN:=qa hbn
   obtain⟨gl,hgl2⟩:∃gl,G.length=gl:=⟨_,rfl⟩
   have HGL:=qa hgl2
   rw[hgl2] at hcell hrl hrn
   have HCE:Hid (∀W,Below w.heap.size w W→W.cell? ⟨b,off+g,none⟩=some (.slice Ag gl cg)):=fun W hW=>(hW.cell (p:=⟨b,off+g,none⟩) hbl).trans hcell
   have hcell:=HCE.out wg HBG.out
   have HPU:=qa (qgl (w:=wg) gl (by omega))
   have hpg:=qew gl (by omega)
   obtain⟨pg,hpg2⟩:∃pg,(jo gl).length=pg:=⟨_,rfl⟩
   rw[hpg2] at HPU hpg
   obtain⟨PG,hPG⟩:∃PG,jo gl=PG:=⟨_,rfl⟩
   rw[hPG] at HPU hpg2
   have HGB:Hid (qqj os nb G=PG++qbc G os nb n):=by unfold Hid;rw[qqj,hgl2,hPG,HN.out]
   clear hrows hG hgl2 hbn hPG
   go_wp2_with fail
   refine HPU.out.mono ?_
   rintro r w4 ⟨A4,c4,rfl,ho4,hb4⟩
   obtain⟨X0,hX0⟩:∃X0,HD++qb4 os nb (gs.take g)++PG=X0:=⟨_,rfl⟩
   obtain⟨p5,hp5⟩:∃p5,p+pg=p5:=⟨_,rfl⟩
   have hpg3:=hpb.big (by omega)
   obtain⟨A5,c5,w5,hrun5,ho5,hb5', -, -⟩:=qf4 HOW.out HP.out hszg hb4 ho4 hpg2 hX0 hp5 (by omega)
   have hs4:=hb4.size
   have HB5:Hid (Below w.heap.size w w5):=(HBG.out.trans (hb4.mono hszg)).trans hb5'
   have HO5:=qa ho5
   have HX0:Hid (X0.length=p5):=by unfold Hid;rw[←hX0,qd,HP.out,hpg2,hp5]
   have hpb5:=PA.put hpb hpg hp5
   have HXE:=qa hX0
   clear ho4 hb4 ho5 hb5' hX0 hp5 HPU HOW HP hpb
   go_wp2_with (at_builtin;refine wpList_append_run rfl _ _ _ _ rfl rfl rfl hrun5 ?_)
   clear hrun5
   go_loopw [10,50] (fun x10 x50 wr=>∃(k p:Nat) (A':Option Addr) (c':Nat),k≤n∧x50= .int .i64 (k:Int)∧x10= .slice A' p c'∧Hid ((X0++qbc G os nb k).length=p)∧PB g k p∧Hid (wr.ownsRow w.heap.size 5 1 (.slice A' p c') p (bv (X0++qbc G os nb k)))∧Hid (∀j,j<k→kj (vg G j)∧(yu (qw (vg G j)) (qdj os j)=2→yy (uc (qw (vg G j)) (qdj os j))=true))∧Below w.heap.size w wr) (fun _ x50 _=>n-(intOf x50).toNat)
   case atStart=>exact⟨0,p5,A5,c5,qi _,rfl,rfl,by unfold Hid;rw[show qbc G os nb 0=[] from rfl,jj];exact HX0.out,hpb5,by unfold Hid;rw[show qbc G os nb 0=[] from rfl,jj];exact HO5.out,(fun j hj=>absurd hj (jp j)),HB5.out⟩
   case round =>
    as_aux_lemma =>
    clear HO5 HB5 HX0
    obtain⟨k,p,A',c',hk,rfl,rfl,HP,hpb,HOW,HTK,hb⟩:=hrel
    obtain⟨wk,hwk⟩:∃wk,wk=wr:=⟨_,rfl⟩
    subst hwk
    have HBK:=qa hb
    have hszk:=hb.size
    clear hb
    by_cases hkl:k<n
    ·
     have ik:(k:Int)<(n:Int):=by omega
     have ik0:(0:Int)≤(k:Int):=by omega
     have hko:k<os.length:=by rw[HN.out];exact hkl
     obtain⟨b9,off9,A9,c9,rfl,_,hbl9,e0,e1,e2,e3,hrd9,hwd9⟩:=(HO.out w (Below.refl _ _)).get hko
     have HCO:Hid (∀W,Below w.heap.size w W→W.cell? ⟨b9,off9+k*4,none⟩=some (.int .i64 os[k].kind)∧W.cell? ⟨b9,off9+k*4+1,none⟩=some (.int .i64 os[k].block)∧W.cell? ⟨b9,off9+k*4+2,none⟩=some (.int .i64 os[k].rounds)∧W.cell? ⟨b9,off9+k*4+3,none⟩=some (.slice A9 os[k].draws.length c9)):=fun W hW=>⟨(hW.cell (p:=⟨b9,off9+k*4,none⟩) hbl9).trans e0,(hW.cell (p:=⟨b9,off9+k*4+1,none⟩) hbl9).trans e1,(hW.cell (p:=⟨b9,off9+k*4+2,none⟩) hbl9).trans e2,(hW.cell (p:=⟨b9,off9+k*4+3,none⟩) hbl9).trans e3⟩
     have hcols:∀r∈G,k<r.length:=fun r hr=>by rw[HWG.out.2 r hr];exact hkl
     have HCL:Hid (∀W,Below w.heap.size w W→Calls Tryz.prog 34 #[.slice Ag gl cg,.int .i64 (k:Int)] W fun r w'=>∃A' c',r= .returned (.slice A' gl c')∧Row w' W.heap.size w'.heap.size A' c' (vg G k)∧Below W.heap.size W w'):=fun W hW=>by
      have:=column_v (HRW.out W hW) k hcols (by rw[HGL.out];omega)
      rw[HGL.out] at this
      exact this
     obtain⟨L,hL⟩:∃L,vg G k=L:=⟨_,rfl⟩
     have HLL:Hid (L.length=gl):=by unfold Hid;rw[←hL,qa7,HGL.out]
     have HSM:Hid (qgp L≤3000):=by unfold Hid;rw[←hL];exact ze (qon hcols) HBN.out
     obtain⟨o,hoq⟩:∃o,os[k]=o:=⟨_,rfl⟩
     have HAT:Hid (qdj os k=o):=by unfold Hid;rw[qpo hko,hoq]
     have HCOO:Hid (qa3 o):=by unfold Hid;rw[←hoq];exact HCOK.out _ (qj hko)
     have HDR:Hid (o.draws.length≤60):=by unfold Hid;rw[←hoq];exact HFW.out.draws _ (qj hko)
     have HCS:Hid (qbc G os nb (k+1)=qbc G os nb k++qj0 L o nb):=by unfold Hid;rw[qin,HAT.out,hL]
     have HCD:Hid (kj L→qnk (qw L) o):=fun hf=>by
      have:=HCC.out k hkl (by rw[hL];exact hf)
      rw[HAT.out,hL] at this
      exact this
     have HTK2:Hid (kj L→(yu (qw L) o=2→yy (uc (qw L) o)=true)→∀j,j<k+1→kj (vg G j)∧(yu (qw (vg G j)) (qdj os j)=2→yy (uc (qw (vg G j)) (qdj os j))=true)):=fun hf ht j hj=>by
      by_cases e:j=k
      ·
       subst e;rw[HAT.out,hL];exact⟨hf,ht⟩
      ·
       exact HTK.out j (by omega)
     have HNR2:Hid (¬kj L→¬jaa (n:Int) gs os (nb:Int)):=fun hf=>HNR.out k hkl (by rw[hL];exact hf)
     rw[hL] at HCL
     rw[hoq] at HCO hrd9 hwd9
     have HRD:Hid (∀W,Below w.heap.size w W→Rd W 0 W.heap.size A9 c9 (iv o.draws)):=fun W hW=>(hrd9.below hW (qc _)).wide (qc _) hW.size
     have HWD9:=qa hwd9
     clear hrd9 hwd9 e0 e1 e2 e3 hL hcols hoq
     have HCF:Hid (∀W,Below wk.heap.size wk W→W.cell? ⟨b9,off9+k*4,none⟩=some (.int .i64 o.kind)∧W.cell? ⟨b9,off9+k*4+1,none⟩=some (.int .i64 o.block)∧W.cell? ⟨b9,off9+k*4+2,none⟩=some (.int .i64 o.rounds)∧W.cell? ⟨b9,off9+k*4+3,none⟩=some (.slice A9 o.draws.length c9)):=fun W hW=>HCO.out W (HBK.out.trans (hW.mono hszk))
     have HCLK:Hid (∀W,Below wk.heap.size wk W→Calls Tryz.prog 34 #[.slice Ag gl cg,.int .i64 (k:Int)] W fun r w'=>∃A' c',r= .returned (.slice A' gl c')∧Row w' W.heap.size w'.heap.size A' c' L∧Below W.heap.size W w'):=fun W hW=>HCL.out W (HBK.out.trans (hW.mono hszk))
     have HIN:Hid (∀W A' c',Below wk.heap.size wk W→Row W 0 W.heap.size A' c' L→CIn W L o.kind o.block o.rounds o.draws A' A9 c' c9):=fun W A' c' hW hr=>⟨hr,HRD.out W (HBK.out.trans (hW.mono hszk)),HWD9.out,by have:=HDR.out;omega⟩
     obtain⟨dl,hdl⟩:∃n,o.draws.length=n:=⟨_,rfl⟩
     have HDL:=qa hdl
     rw[hdl] at HCF
     clear hdl
     have KD:Hid (Below wk.heap.size wk wk.drew):=(Below.refl _ _).drew
     go_wp2_with fail
     by_cases hfv:kj L
     ·
      have HCO8:Hid (qnk (qw L) o):=HCD.out hfv
      have HTK3:Hid ((yu (qw L) o=2→yy (uc (qw L) o)=true)→∀j,j<k+1→kj (vg G j)∧(yu (qw (vg G j)) (qdj os j)=2→yy (uc (qw (vg G j)) (qdj os j))=true)):=HTK2.out hfv
      have HFV:=qa hfv
      have hal:(qb6 (qcl (qw L))).length≤65536:=by
       have h1:=allL_sum (qw L)
       have h2:=qgu L
       have:=HSM.out
       omega
      have HAL:=qa hal
      have HFB:Hid ((qla (qw L) nb).length≤1000000):=by
       obtain⟨t,ht⟩:=rise_ex (qb6 (qcl (qw L)))
       exact qm0 ht (by omega) hnb6
      clear hfv hal
      refine wp_region_held_drew (S:=fun w'=>Below wk.heap.size wk w') (by kernel_rfl) KD.out (fun hHeld => ?_)
      refine tk 0 ?_ rfl hHeld ?_ ?_
      rotate_left
      focus (intro W hSw;go_simp;try with_reducible rfl)
      try simp only[jv,Act.put]
      refine tk 1 ?_ rfl hHeld ?_ ?_
      rotate_left
      focus (intro W hSw;go_simp;try with_reducible rfl)
      try simp only[jv,Act.put]
      refine tk 3 ?_ rfl hHeld ?_ ?_
      rotate_left
      focus (intro W hSw;go_simp;try with_reducible rfl)
      try simp only[jv,Act.put]
      refine tk 4 ?_ rfl hHeld ?_ ?_
      rotate_left
      focus (intro W hSw;go_simp;try with_reducible rfl)
      try simp only[jv,Act.put]
      refine tk 5 ?_ rfl hHeld ?_ ?_
      rotate_left
      focus (intro W hSw;go_simp;try with_reducible rfl)
      try simp only[jv,Act.put]
      refine tk 7 ?_ rfl hHeld ?_ ?_
      rotate_left
      focus (intro W hSw;go_simp;try with_reducible rfl)
      try simp only[jv,Act.put]
      refine tk 6 ?_ rfl hHeld ?_ ?_
      rotate_left
      focus (intro W hSw;obtain⟨q0,q1,q2,q3⟩:=HCF.out W hSw;go_simp;try with_reducible rfl)
      try simp only[jv,Act.put]
      obtain⟨wx,hwx⟩:∃q,wk.drew=q:=⟨_,rfl⟩
      rw[hwx] at hHeld ⊢
      clear KD hwx
      have K0:=qa hHeld
      refine wpAnyH_ready (rs:=[2]) (by kernel_rfl) (by simp) ?_
      refine zc (o:=_) rfl (fun K hK => ?_) zm
      go_simp
      refine(HCLK.out _ K0.out).mono ?_
      rintro r wy ⟨A7,c7,rfl,hr7,hb7⟩
      have K7:Hid (Below wk.heap.size wk wy):=K0.out.trans (hb7.mono K0.out.size)
      have HI7:=qa (HIN.out wy A7 c7 K7.out (hr7.wide (qi _) (qc _)))
      clear hr7 hb7
      refine hK.out _ _ K7.out (fun hHeld => ?_)
      clear hK K
      try simp only[jv,Act.put]
      obtain⟨CB,hCB⟩:∃CB,qj0 L o nb=CB:=⟨_,rfl⟩
      have HCB:=qa hCB
      clear hCB
      refine wpAnyH_ready (rs:=[8]) (by kernel_rfl) (by simp) ?_
      refine zc (o:=_) rfl (fun K hK => ?_) zm
      go_simp
      have HC8:Hid (Calls Tryz.prog 33 #[.slice A7 gl c7,.agg #[.int .i64 o.kind,.int .i64 o.block,.int .i64 o.rounds,.slice A9 dl c9],.int .i64 (nb:Int)] wy fun r w'=>∃A' c',r= .returned (.tuple #[.slice A' CB.length c',.int .i64 0])∧w'.ownsRow wy.heap.size 5 1 (.slice A' CB.length c') CB.length (bv CB)∧Below wy.heap.size wy w'∧(yu (qw L) o=2→yy (uc (qw L) o)=true)):=by
       have:=sgcode_yes HI7.out (o:=o) rfl ⟨HFV.out,HCOO.out⟩ nb hnb6 HAL.out (by rw[HLL.out];omega) (by have:=HSM.out;omega) HCO8.out
       rw[HLL.out,HDL.out,HCB.out] at this
       exact this
      refine HC8.out.mono ?_
      rintro r wz ⟨A8,c8,rfl,ho8,hb8,ht8⟩
      have K8:Hid (Below wk.heap.size wk wz):=K7.out.trans (hb8.mono K7.out.size)
      have HO8:=qa (j4 ho8 K7.out.size)
      have HT8:=qa ht8
      clear ho8 hb8 ht8 HC8 HI7
      refine hK.out _ _ K8.out (fun hHeld => ?_)
      clear hK K
      try simp only[jv,Act.put]
      refine tk 9 ?_ rfl hHeld ?_ ?_
      rotate_left
      focus (intro W hSw;go_simp;try with_reducible rfl)
      try simp only[jv,Act.put]
      refine tk 10 ?_ rfl hHeld ?_ ?_
      rotate_left
      focus (intro W hSw;go_simp;try with_reducible rfl)
      try simp only[jv,Act.put]
      refine tk 11 ?_ rfl hHeld ?_ ?_
      rotate_left
      focus (intro W hSw;go_simp;try with_reducible rfl)
      try simp only[jv,Act.put]
      refine tk 12 ?_ rfl hHeld ?_ ?_
      rotate_left
      focus (intro W hSw;go_simp;try with_reducible rfl)
      try simp only[jv,Act.put]
      refine tk 13 ?_ rfl hHeld ?_ ?_
      rotate_left
      focus (intro W hSw;go_simp;try with_reducible rfl)
      try simp only[jv,Act.put]
      refine wpAnyH_done (by kernel_rfl) ?_ _
      clear HCLK HCF HIN HCL HCO
      have hcode:=qpn HFV.out HCOO.out HT8.out (by rw[HLL.out];omega) (by have:=HSM.out;omega)
      obtain⟨cl,hcl⟩:∃q,CB.length=q:=⟨_,rfl⟩
      have hcl2:cl=(qla (qw L) nb).length+(qeh L o).length:=by rw[←hcl,←HCB.out,qj0,qd]
      have HK8:Hid (Below w.heap.size w wz):=HBK.out.trans (K8.out.mono hszk)
      rw[hcl] at HO8
      have hpk3:=hpb.big (by omega) (by omega)
      have hfl:=HFB.out
      obtain⟨p7,hp7⟩:∃p7,p+cl=p7:=⟨_,rfl⟩
      obtain⟨A7,c7,w7,hrun7,ho7,hb7, -, -⟩:=qf4 HOW.out HP.out hszk K8.out HO8.out hcl rfl hp7 (by omega)
      have HB7:Hid (Below w.heap.size w w7):=HK8.out.trans hb7
      have hpb7:PB g (k+1) p7:=hpb.step (a:=(qla (qw L) nb).length) (b:=(qeh L o).length) hfl hcode rfl (by omega)
      have HE:Hid (X0++qbc G os nb k++CB=X0++qbc G os nb (k+1)):=by unfold Hid;rw[HCS.out,HCB.out,qv]
      have HP7:Hid ((X0++qbc G os nb (k+1)).length=p7):=by unfold Hid;rw[←HE.out,qd,HP.out,hcl,hp7]
      rw[HE.out] at ho7
      have HO7:=qa ho7
      have HTK4:=qa (HTK3.out HT8.out)
      rw[hcl]
      clear ho7 hb7 hp7 hpb HOW HP hcode hcl hcl2 hfl HO8
      go_wp2_with (at_builtin;refine wpList_append_run rfl _ _ _ _ rfl rfl rfl hrun7 ?_)
      go_roundw
      case rel=>exact⟨k+1,p7,A7,c7,by omega,by go_num,rfl,HP7.out,hpb7,HO7.out,HTK4.out,HB7.out⟩
      case measure=>simp[intOf];omega
     ·
      have HNR3:=qa (HNR2.out hfv)
      have HFV:=qa hfv
      clear hfv
      refine wp_region_held_drew (S:=fun w'=>Below wk.heap.size wk w') (by kernel_rfl) KD.out (fun hHeld => ?_)
      refine tk 0 ?_ rfl hHeld ?_ ?_
      rotate_left
      focus (intro W hSw;go_simp;try with_reducible rfl)
      try simp only[jv,Act.put]
      refine tk 1 ?_ rfl hHeld ?_ ?_
      rotate_left
      focus (intro W hSw;go_simp;try with_reducible rfl)
      try simp only[jv,Act.put]
      refine tk 3 ?_ rfl hHeld ?_ ?_
      rotate_left
      focus (intro W hSw;go_simp;try with_reducible rfl)
      try simp only[jv,Act.put]
      refine tk 4 ?_ rfl hHeld ?_ ?_
      rotate_left
      focus (intro W hSw;go_simp;try with_reducible rfl)
      try simp only[jv,Act.put]
      refine tk 5 ?_ rfl hHeld ?_ ?_
      rotate_left
      focus (intro W hSw;go_simp;try with_reducible rfl)
      try simp only[jv,Act.put]
      refine tk 7 ?_ rfl hHeld ?_ ?_
      rotate_left
      focus (intro W hSw;go_simp;try with_reducible rfl)
      try simp only[jv,Act.put]
      refine tk 6 ?_ rfl hHeld ?_ ?_
      rotate_left
      focus (intro W hSw;obtain⟨q0,q1,q2,q3⟩:=HCF.out W hSw;go_simp;try with_reducible rfl)
      try simp only[jv,Act.put]
      obtain⟨wx,hwx⟩:∃q,wk.drew=q:=⟨_,rfl⟩
      rw[hwx] at hHeld ⊢
      clear KD hwx
      have K0:=qa hHeld
      refine wpAnyH_ready (rs:=[2]) (by kernel_rfl) (by simp) ?_
      refine zc (o:=_) rfl (fun K hK => ?_) zm
      go_simp
      refine(HCLK.out _ K0.out).mono ?_
      rintro r wy ⟨A7,c7,rfl,hr7,hb7⟩
      have K7:Hid (Below wk.heap.size wk wy):=K0.out.trans (hb7.mono K0.out.size)
      have HI7:=qa (HIN.out wy A7 c7 K7.out (hr7.wide (qi _) (qc _)))
      clear hr7 hb7
      refine hK.out _ _ K7.out (fun hHeld => ?_)
      clear hK K
      try simp only[jv,Act.put]
      refine wpAnyH_ready (rs:=[8]) (by kernel_rfl) (by simp) ?_
      refine zc (o:=_) rfl (fun K hK => ?_) zm
      go_simp
      have HC8:Hid (Calls Tryz.prog 33 #[.slice A7 gl c7,.agg #[.int .i64 o.kind,.int .i64 o.block,.int .i64 o.rounds,.slice A9 dl c9],.int .i64 (nb:Int)] wy fun r w'=>r= .returned (.tuple #[.slice none 0 0,.int .i64 1])∧Below wy.heap.size wy w'):=by
       have:=sgcode_no HI7.out (fun h=>HFV.out h.1) (nb:Int)
       rw[HLL.out,HDL.out] at this
       exact this
      refine HC8.out.mono ?_
      rintro r wz ⟨rfl,hb8⟩
      have K8:Hid (Below wk.heap.size wk wz):=K7.out.trans (hb8.mono K7.out.size)
      clear hb8 HC8 HI7
      refine hK.out _ _ K8.out (fun hHeld => ?_)
      clear hK K
      try simp only[jv,Act.put]
      refine tk 9 ?_ rfl hHeld ?_ ?_
      rotate_left
      focus (intro W hSw;go_simp;try with_reducible rfl)
      try simp only[jv,Act.put]
      refine tk 10 ?_ rfl hHeld ?_ ?_
      rotate_left
      focus (intro W hSw;go_simp;try with_reducible rfl)
      try simp only[jv,Act.put]
      refine tk 11 ?_ rfl hHeld ?_ ?_
      rotate_left
      focus (intro W hSw;go_simp;try with_reducible rfl)
      try simp only[jv,Act.put]
      refine tk 12 ?_ rfl hHeld ?_ ?_
      rotate_left
      focus (intro W hSw;go_simp;try with_reducible rfl)
      try simp only[jv,Act.put]
      refine tk 13 ?_ rfl hHeld ?_ ?_
      rotate_left
      focus (intro W hSw;go_simp;try with_reducible rfl)
      try simp only[jv,Act.put]
      refine wpAnyH_done (by kernel_rfl) ?_ _
      go_wp2_with fail
      go_ret2
      exact⟨HBK.out.trans (K8.out.mono hszk),.inr ⟨HNR3.out,rfl⟩⟩
    ·
     have ik:¬(k:Int)<(n:Int):=by omega
     have hkn:k=n:=by omega
     have HXN:Hid (HD++qb4 os nb (gs.take (g+1))=X0++qbc G os nb n):=by
      unfold Hid
      rw[HGT.out,HGB.out,←HXE.out]
      simp only[qv]
     subst hkn
     rw[←HXN.out] at HP HOW
     have HTN:=qa (HNX.out HTK.out)
     go_wp2_with fail
     go_roundw
     case rel=>exact⟨g+1,p,A',c',by omega,by go_num,rfl,HP.out,hpb.next (by omega),HOW.out,HTN.out,HBK.out⟩
     case measure=>simp[intOf];omega
  ·
   have ig:¬(g:Int)<(gs.length:Int):=by omega
   have HTA:Hid (gs.take g=gs):=qo (by omega)
   rw[HTA.out,HSG.out] at HP HOW
   have HALL:Hid (∀x∈gs,∀k,k<os.length→kj (vg x k)∧(yu (qw (vg x k)) (qdj os k)=2→yy (uc (qw (vg x k)) (qdj os k))=true)):=fun x hx k hk=>by
    obtain⟨i,hi,rfl⟩:=zq hx
    exact HT.out i hi (by omega) k (by rw[HN.out] at hk;exact hk)
   have HRR:Hid (jaa (n:Int) gs os (nb:Int)):=HRG.out fun x hx k hk=>(HALL.out x hx k hk).1
   have HTT:Hid (qkx gs os):=fun x hx k hk=>(HALL.out x hx k hk).2
   have HSE:=qa (Seal_any (w:=wg) SG ((Rd.of_own HOW.out).wide (qi _) (qc _)) (qc _) (by rw[HP.out];have:=hpb.big (by omega);omega))
   rw[HP.out] at HSE
   go_wp2_with fail
   refine HSE.out.mono ?_
   rintro r w2 ⟨A2,c2,rfl,ho2,hb2⟩
   have HB2:Hid (Below w.heap.size w w2):=HBG.out.trans (hb2.mono hszg)
   have HO2:=qa (j4 ho2 hszg)
   clear ho2 hb2
   rw[HSLN.out] at HO2 ⊢
   go_wp2_with fail
   go_ret2
   exact⟨HB2.out,.inl ⟨HRR.out,HTT.out,_,_,rfl,HO2.out⟩⟩
theorem grpsR_pre{bs:List UInt8}{nc k i:Nat}{a:List GrpS}{ka la:Nat}(h:qcv bs nc k i=some (a,ka,la)):∀ {j kb lb:Nat} {b:List GrpS},i≤j→qcv bs nc k j=some (b,kb,lb)→a <+: b:=by
 intro j
 induction j with
 | zero =>
  intro kb lb b hij hb
  obtain rfl:i=0:=by omega
  rw[h] at hb
  obtain⟨rfl,_⟩:=Prod.mk.inj (jh hb)
  exact List.prefix_refl _
 | succ j ih =>
  intro kb lb b hij hb
  by_cases e:i=j+1
  ·
   subst e
   rw[h] at hb
   obtain⟨rfl,_⟩:=Prod.mk.inj (jh hb)
   exact List.prefix_refl _
  ·
   rw[qcv,qah] at hb
   obtain⟨⟨c,kc,lc⟩,h1,h2⟩:=hb
   rw[uk] at h2
   obtain⟨⟨g,kg⟩,h3,h4⟩:=h2
   obtain⟨rfl,_⟩:=Prod.mk.inj h4
   exact(ih (by omega) h1).trans (List.prefix_append _ _)
theorem colsR_pre{bs:List UInt8}{n k i:Nat}{a:List ColS}{ka:Nat}(h:qc5 bs n k i=some (a,ka)):∀ {j kb:Nat} {b:List ColS},i≤j→qc5 bs n k j=some (b,kb)→a <+: b:=by
 intro j
 induction j with
 | zero =>
  intro kb b hij hb
  obtain rfl:i=0:=by omega
  rw[h] at hb
  obtain⟨rfl,_⟩:=Prod.mk.inj (jh hb)
  exact List.prefix_refl _
 | succ j ih =>
  intro kb b hij hb
  by_cases e:i=j+1
  ·
   subst e
   rw[h] at hb
   obtain⟨rfl,_⟩:=Prod.mk.inj (jh hb)
   exact List.prefix_refl _
  ·
   rw[qc5,qah] at hb
   obtain⟨⟨c,kc⟩,h1,h2⟩:=hb
   rw[uk] at h2
   obtain⟨⟨g,kg⟩,h3,h4⟩:=h2
   obtain⟨rfl,_⟩:=Prod.mk.inj h4
   exact(ih (by omega) h1).trans (List.prefix_append _ _)
theorem openH_plain{bs:List UInt8}{n:Nat}{gs:List GrpS}(h:qke bs=some (n,gs))(hk:∀g∈gs,∀c∈g.cols,c.ck.kind=1)(hb:bs.length≤1000000000):qrx bs:=by
 intro nc k0 cn k1 i kp left m k2 j kq b k3 e0 e1 gs' cs fg fr hM hN hi hG hL hm hj hC hT
 have hall:∃kz lz,qcv bs nc k1 cn=some (gs,kz,lz):=by
  unfold qke at h
  rw[hM] at h
  simp only[hN] at h
  split at h
  ·
   cases h
  ·
   split at h
   ·
    cases h
   ·
    rw[qah] at h
    obtain⟨⟨ds,k1',l1⟩,h1,h2⟩:=h
    split at h2
    ·
     cases h2
    ·
     obtain⟨_,rfl⟩:=Prod.mk.inj (jh h2)
     exact⟨_,_,h1⟩
 obtain⟨kz,lz,hall⟩:=hall
 have hsucc:∃x,qcv bs nc k1 (i+1)=some x:=by
  match hx:qcv bs nc k1 (i+1) with
  | some x=>exact⟨x,rfl⟩
  | none =>
   rw[grpsR_more hx (show i+1≤cn from hi)] at hall
   cases hall
 obtain⟨⟨gs1,kz1,lz1⟩,hs1⟩:=hsucc
 have hpre:=grpsR_pre hs1 (show i+1≤cn from hi) hall
 rw[qcv,hG] at hs1
 simp only[vb,uk] at hs1
 obtain⟨⟨g,kg⟩,hg,h4⟩:=hs1
 obtain⟨rfl,_⟩:=Prod.mk.inj h4
 have hgm:g∈gs:=hpre.subset (by simp)
 unfold qqi at hg
 simp only[hL] at hg
 rw[if_neg hm,uk] at hg
 obtain⟨⟨cs',kc⟩,hcs,h5⟩:=hg
 obtain⟨rfl,_⟩:=Prod.mk.inj h5
 have hcsucc:∃x,qc5 bs m k2 (j+1)=some x:=by
  match hx:qc5 bs m k2 (j+1) with
  | some x=>exact⟨x,rfl⟩
  | none =>
   rw[colsR_more hx (show j+1≤nc from hj)] at hcs
   cases hcs
 obtain⟨⟨cs1,kc1⟩,hc1⟩:=hcsucc
 have hcpre:=colsR_pre hc1 (show j+1≤nc from hj) hcs
 rw[qc5,hC] at hc1
 simp only[vb,uk] at hc1
 obtain⟨⟨c,kd⟩,hc,h6⟩:=hc1
 obtain⟨rfl,_⟩:=Prod.mk.inj h6
 have hcm:c∈cs':=hcpre.subset (by simp)
 have hkind:=hk _ hgm c hcm
 obtain⟨K,g1,g2,h7,h8⟩:=(colR_at hc).lies
 obtain⟨_,rfl,rfl,rfl⟩:=hT.there _ _ _ _ rfl (colR_at hc).ok.fil h7
 obtain⟨_,_,h9,h10,h11⟩:=hT.good rfl
 have h12:bs.drop k3=qh1 K c.ck++bs.drop kd:=qai (h9.symm.trans h7)
 have h13:bs[k3]? = some 1:=by
  have:=congrArg List.head? h12
  rw[List.head?_drop,qh1,hkind] at this
  simpa using this
 exact fun {w lo g} hcu=>open_plain hcu hb h13
theorem openH_nil:qrx []:=by
 intro nc k0 cn k1 i kp left m k2 j kq b k3 e0 e1 gs' cs fg fr hM hN hi hG hL hm hj hC hT
 obtain⟨_,_,h9,h10,h11⟩:=hT.good rfl
 have:=writeG_zero b fg fr
 simp at h11
 omega
theorem qrr(l:List ByteArray){o:Co}(hk:o.kind=1):qnk l o:=by
 obtain⟨kd,bl,ro,ds⟩:=o
 have hk1:kd=1:=hk
 subst hk1
 intro B d w A c h
 have e:yu l ⟨1,bl,ro,ds⟩=1:=by rw[yu,if_neg (show ¬(1:Int)=0 by decide)]
 rw[e]
 exact code_kW h (by omega) payload_one
theorem codeG_plain{gs:List (List (List Vl))}{os:List Co}(hk:∀o∈os,o.kind=1):CodeG gs os:=⟨fun o ho _=>qrr _ (hk o ho),fun g hg k hkl _=>qrr _ (by rw[qpo hkl];exact hk _ (qj hkl))⟩
theorem qax.of{w:World}{lo hi c:Nat}{A:Option Addr}{xs:List Value}{gs:List (List (List Vl))}(hr:Rd w lo hi A c xs)(hx:xs.length=gs.length)(h:∀j (hj:j<gs.length),∃A' c',xs[j]? = some (.slice A' gs[j].length c')∧vr w lo hi A' c' gs[j]):qax w lo hi A c gs:=by
 obtain⟨ps,hp,hps⟩:=qg5 (n:=gs.length) (Q:=fun j (q:Option Addr×Nat)=>∀hj:j<gs.length,xs[j]? = some (.slice q.1 gs[j].length q.2)∧vr w lo hi q.1 q.2 gs[j]) fun j hj=>by
  obtain⟨A',c',h1,h2⟩:=h j hj
  exact⟨(A',c'),fun _=>⟨h1,h2⟩⟩
 refine⟨fun j=>(ps[j]?).bind (·.1),fun j=>((ps[j]?).map (·.2)).getD 0,⟨by rw[←hx];exact hr.len,hr.cap,fun hq => ?_⟩,fun j hj => ?_⟩
 ·
  obtain⟨b,off,e,h3,h4,h5⟩:=hr.at_ (by rw[hx];exact hq)
  refine⟨b,off,e,h3,h4,fun j hj i hi => ?_⟩
  have hi0:i=0:=by omega
  subst hi0
  have h6:=(hps j (by omega) hj).1
  have h7:=h5 j _ h6
  rw[va,xx,h7]
  simp[qe hj,qe (show j<ps.length by omega)]
 ·
  have h6:=(hps j (by omega) hj).2
  simpa[qe (show j<ps.length by omega)] using h6
theorem qbu.one{w:World}{lo hi g:Nat}{t:TypeId}{o:Co}{B:Option Addr}{d:Nat}(h:j6 w g t #[.int .i64 o.kind,.int .i64 o.block,.int .i64 o.rounds,.slice B o.draws.length d])(hlo:lo≤g)(hhi:g<hi)(hd:Rd w lo hi B d (iv o.draws))(hw:qj8 o.draws):qbu w lo hi (some ⟨g,0,none⟩) 1 [o]:=by
 refine⟨fun _=>B,fun _=>d,⟨qc _,by simp[maxLen],fun _=>⟨g,0,rfl,hlo,hhi,fun j hj i hi => ?_⟩⟩,fun j hj => ?_⟩
 ·
  obtain rfl:j=0:=by simp at hj;exact hj
  rw[h.cell]
  simp
 ·
  obtain rfl:j=0:=by simp at hj;exact hj
  exact⟨hd,hw⟩
end Go.Proofs.YtnjkipnklpkaoaaGreat
