import Derived.Test.YtlefjidbpjkhlaaGreatK43
import Derived.Test.YtlefjidbpjkhlaaGreatK11
import Derived.Test.YtlefjidbpjkhlaaGreatK30
import Derived.Test.YtlefjidbpjkhlaaGreatK28
import Derived.Test.YtlefjidbpjkhlaaGreatK34
set_option maxRecDepth 100000
set_option maxHeartbeats 16000000
namespace Go.Proofs.YtlefjidbpjkhlaaGreat
variable {Y Z:Nat->Prop}
variable {w:World}
variable {F:Cf}
variable {K N b f n p r t x:Nat}
variable {C:Nat->List Int}
variable {L:Nat->Option (List Int)}
variable {Ms:List (Nat->Option (List Int))}
variable {PO:Ending->World->Prop}
open Go.RowKit Go.Deep
attribute [local go_sem] Oper.semAt_some
theorem Opn.unrefT(h:Opn Y w F K N C t L Ms n)(hsp:Spb w x f r F.st)(hx:¬Y x)(hK:K+13000<4611686018427387904)(hn:n+6<=1073741823)(hT:TbS C L f r F.nb)(hnb:F.nb<=4611686018427387904)(b:Nat)(hb:1<=b/\b<=tsz C L f)(hB:Pl.isB (spgA C L f (indexN r+((b-1) / 480))))(tk tr:Nat)(htk:((spgA C L f (indexN r+((b-1) / 480))).getD (32+((b-1) % 480)) 0)=1->(tk:Int)=tknZ (spgA C L f (((b-1) / 480) / 60)) (((b-1) / 480) % 60)-1/\(tr:Int)=max (trnZ (spgA C L f (((b-1) / 480) / 60)) (((b-1) / 480) % 60)) (trnZ (cpg true r (((b-1) / 480) / 60) (C (f+((b-1) / 480) / 60))) (((b-1) / 480) % 60))+1/\tk<=65535/\tr<=281474976710655) :
  Calls Tryz.prog 26 #[.pointer (some ⟨x,0,none⟩),.pointer (some ⟨t,0,none⟩),.int .i64 (b:Int)] w fun e w'=>∃K' n' Y',e=.returned (.tuple #[.int .i64 (if ((spgA C L f (indexN r+((b-1) / 480))).getD (32+((b-1) % 480)) 0)=0 then 0 else ((spgA C L f (indexN r+((b-1) / 480))).getD (32+((b-1) % 480)) 0)-1),.int .i64 (if ((spgA C L f (indexN r+((b-1) / 480))).getD (32+((b-1) % 480)) 0)=0 then (62:Int) else 0)])/\(K'<=K+9/\n'<=n+6)/\Opn Y' w' F K' N C t (if (if ((spgA C L f (indexN r+((b-1) / 480))).getD (32+((b-1) % 480)) 0)=0 then (62:Int) else 0)=0 then chgL C L f r b (if ((spgA C L f (indexN r+((b-1) / 480))).getD (32+((b-1) % 480)) 0)=0 then 0 else ((spgA C L f (indexN r+((b-1) / 480))).getD (32+((b-1) % 480)) 0)-1) tk tr else L) Ms n'/\Gr Y Y' w/\But Y w w':=by
 refine poz fun PO hPO=>?_
 have HLK:=hid (h.lookT hsp hx hK hT)
 have hxl:=hsp.lt
 have hbd:=getD_bd hB (32+((b-1) % 480))
 have hlt:=h.lt
 have HCF:Hid (∀Y' w',Opn Y' w' F (K+1) N C t L Ms n->Gr Y Y' w->But Y w w'->Calls Tryz.prog 54 #[.agg #[.pointer (some ⟨x,0,none⟩),.int .i64 (tsz C L f:Int),.int .i64 (tlf C L f),.pointer (some ⟨t,0,none⟩)],.int .i64 (b:Int),.func (.func 57) #[] #[.pointer (some ⟨(w'.heap.size+1),0,none⟩)]] ((w'.alloc (.cells #[.pointer (some ⟨x,0,none⟩),.int .i64 (tsz C L f:Int),.int .i64 (tlf C L f),.pointer (some ⟨t,0,none⟩)] 103)).alloc (.cells #[.int .i64 0] 3)) fun e w''=>∃v c,e=.returned (.int .i64 v)/\(¬v=0->PO (.returned (.tuple #[.int .i64 0,.int .i64 v])) w'')/\(v=0->w''.cell? ⟨(w'.heap.size+1),0,none⟩=some (.int .i64 c)/\PO (.returned (.tuple #[.int .i64 c,.int .i64 0])) w'')):=fun Y' w' k1 k2 k3=>by
  have bA:Below w'.heap.size w' ((w'.alloc (.cells #[.pointer (some ⟨x,0,none⟩),.int .i64 (tsz C L f:Int),.int .i64 (tlf C L f),.pointer (some ⟨t,0,none⟩)] 103)).alloc (.cells #[.int .i64 0] 3)):=((Below.refl _ _).alloc (Nat.le_refl _) _).alloc (by simp) _
  have sA0:((w'.alloc (.cells #[.pointer (some ⟨x,0,none⟩),.int .i64 (tsz C L f:Int),.int .i64 (tlf C L f),.pointer (some ⟨t,0,none⟩)] 103)).alloc (.cells #[.int .i64 0] 3)).heap.size=w'.heap.size+2:=by simp
  have hlc:((w'.alloc (.cells #[.pointer (some ⟨x,0,none⟩),.int .i64 (tsz C L f:Int),.int .i64 (tlf C L f),.pointer (some ⟨t,0,none⟩)] 103)).alloc (.cells #[.int .i64 0] 3)).heap[(w'.heap.size+1)]?=some (.cells #[.int .i64 0] 3 (0,0)):=(heap2 _ _ _).2
  have hYl:¬Y' (w'.heap.size+1):=fun e=>by have:=k1.lt _ e;omega
  have s3:=k3.size
  refine Calls.mono ((k1.below bA).change57 (by omega) hn (hsp.keep ((bA.block x (Nat.lt_of_lt_of_le hxl k3.size)).trans (k3.block x hxl hx))) (fun q=>hx (k2 x hxl q)) hT hnb b hb (w'.heap.size+1) ⟨hYl,by omega,by omega⟩ (if ((spgA C L f (indexN r+((b-1) / 480))).getD (32+((b-1) % 480)) 0)=0 then 0 else ((spgA C L f (indexN r+((b-1) / 480))).getD (32+((b-1) % 480)) 0)-1) (if ((spgA C L f (indexN r+((b-1) / 480))).getD (32+((b-1) % 480)) 0)=0 then (62:Int) else 0) (fun w5 w6=>(if ((spgA C L f (indexN r+((b-1) / 480))).getD (32+((b-1) % 480)) 0)=0 then (62:Int) else 0)=0->w6.heap[(w'.heap.size+1)]?=some (.cells #[.int .i64 (if ((spgA C L f (indexN r+((b-1) / 480))).getD (32+((b-1) % 480)) 0)=0 then 0 else ((spgA C L f (indexN r+((b-1) / 480))).getD (32+((b-1) % 480)) 0)-1)] 3 (0,0))) (fun w5 b5=>?_) tk tr (fun he=>?_)) ?_
  ·have hl5:=(b5.block (w'.heap.size+1) (by omega) hYl).trans hlc
   by_cases hz:((spgA C L f (indexN r+((b-1) / 480))).getD (32+((b-1) % 480)) 0)=0
   ·rw[if_pos hz,if_pos hz,hz]
    refine Calls.mono (clo57_zero (w'.heap.size+1) w5) ?_
    rintro e w6 ⟨rfl,rfl⟩
    exact⟨rfl,But.refl _ _,fun e=>by omega⟩
   ·rw[if_neg hz,if_neg hz]
    refine Calls.mono (clo57_some ((spgA C L f (indexN r+((b-1) / 480))).getD (32+((b-1) % 480)) 0) 0 (by omega) hbd.2 (w'.heap.size+1) w5 hl5) ?_
    rintro e w6 ⟨rfl,rfl⟩
    exact⟨rfl,but_set w5 (w'.heap.size+1) 0 _,fun _=>set_heap _ hl5⟩
  ·have hz:¬((spgA C L f (indexN r+((b-1) / 480))).getD (32+((b-1) % 480)) 0)=0:=fun e=>by rw[if_pos e]at he;omega
   rw[if_neg hz]
   refine⟨by omega,fun hm=>?_⟩
   obtain⟨a1,a2,a3,a4⟩:=htk (by omega)
   exact⟨by omega,a2,a3,a4⟩
  ·rintro e w'' ⟨K',n',Y'',rfl,q1,q2,q3,q4,w5,w6,Y6,q5,q6,q7,q8⟩
   have sA:=bA.size
   have bb:But Y w w'':=(k3.comp (But.of_below bA (X:=fun _=>False)) (fun _ _ q=>q.elim)).comp q4 (fun q hq e=>by
    rcases e with e | e
    ·exact k2 q hq e
    ·omega)
   have gg:Gr Y Y'' w:=fun q hq e=>k2 q hq (q3 q (by omega) e)
   refine⟨(if ((spgA C L f (indexN r+((b-1) / 480))).getD (32+((b-1) % 480)) 0)=0 then (62:Int) else 0),(if ((spgA C L f (indexN r+((b-1) / 480))).getD (32+((b-1) % 480)) 0)=0 then 0 else ((spgA C L f (indexN r+((b-1) / 480))).getD (32+((b-1) % 480)) 0)-1),rfl,fun hne=>?_,fun he=>?_⟩
   ·have hz:((spgA C L f (indexN r+((b-1) / 480))).getD (32+((b-1) % 480)) 0)=0:=by
     by_cases e:((spgA C L f (indexN r+((b-1) / 480))).getD (32+((b-1) % 480)) 0)=0
     ·exact e
     ·rw[if_neg e]at hne
      exact absurd rfl hne
    rw[hPO]
    refine⟨K',n',Y'',?_,by omega,q2,gg,bb⟩
    rw[if_pos hz,if_pos hz]
   ·have hl6:=q5 he
    have hl:=(q7.block (w'.heap.size+1) (Array.getElem?_eq_some_iff.1 hl6).1 (fun e=>hYl (q8 _ (by omega) e))).trans hl6
    refine⟨by simp[World.cell?,hl],?_⟩
    rw[hPO]
    refine⟨K',n',Y'',?_,by omega,q2,gg,bb⟩
    rw[he]
 clear hPO h hsp hx hT hxl hK hB hbd hb hn hnb hlt htk
 generalize (tsz C L f:Int)=sv at *
 generalize tlf C L f=lv at *
 go_enter Tryz.func26,Tryz.ntmps26
 go_wp2_with fail
 refine Calls.mono HLK.out ?_
 rintro e w1 ⟨Y1,rfl,k1,k2,k3⟩
 have HC:=hid (HCF.out Y1 w1 k1 k2 k3)
 clear k1 k2 k3 HCF HLK
 go_wp2_with fail
 refine Calls.mono HC.out ?_
 rintro e w2 ⟨v,c,rfl,hA,hBB⟩
 by_cases hv:v=0
 ·obtain⟨hcl,hp⟩:=hBB hv
  have HP:=hid hp
  subst hv
  clear hp HC hA hBB
  go_wp2
  exact HP.out
 ·have HP:=hid (hA hv)
  clear hA hBB HC
  go_wp2
  exact HP.out
open Go.RowKit Go.Deep
attribute [local go_sem] Oper.semAt_some
def AlC (w:World) (x t:Nat) (PO:Ending->World->Prop):Prop :=
 Calls Tryz.prog 50 #[.pointer (some ⟨x,0,none⟩),.pointer (some ⟨t,0,none⟩)] w fun e w1=>∃sv lv,e=.returned (.tuple #[.agg #[.pointer (some ⟨x,0,none⟩),.int .i64 sv,.int .i64 lv,.pointer (some ⟨t,0,none⟩)],.int .i64 0])/\Calls Tryz.prog 53 #[.agg #[.pointer (some ⟨x,0,none⟩),.int .i64 sv,.int .i64 lv,.pointer (some ⟨t,0,none⟩)],.int .i64 1] (w1.alloc (.cells #[.pointer (some ⟨x,0,none⟩),.int .i64 sv,.int .i64 lv,.pointer (some ⟨t,0,none⟩)] 103)) fun e w2=>(e=.returned (.tuple #[.slice none 0 0,.int .i64 64])/\PO (.returned (.tuple #[.int .i64 0,.int .i64 64])) w2)\/∃g cap b,e=.returned (.tuple #[.slice (some ⟨g,0,none⟩) 1 cap,.int .i64 0])/\∀vb,vb=w1.heap.size->∀w3,w3=w2.drew->(w3.cell? ⟨vb,0,none⟩=some (.pointer (some ⟨x,0,none⟩))/\w3.cell? ⟨vb,1,none⟩=some (.int .i64 sv)/\w3.cell? ⟨vb,2,none⟩=some (.int .i64 lv)/\w3.cell? ⟨vb,3,none⟩=some (.pointer (some ⟨t,0,none⟩))/\w3.cell? ⟨g,0,none⟩=some (.int .i64 b))/\Calls Tryz.prog 54 #[.agg #[.pointer (some ⟨x,0,none⟩),.int .i64 sv,.int .i64 lv,.pointer (some ⟨t,0,none⟩)],.int .i64 b,.func (.func 55) #[] #[]] w3 fun e w4=>e=.returned (.int .i64 0)/\(w4.cell? ⟨vb,0,none⟩=some (.pointer (some ⟨x,0,none⟩))/\w4.cell? ⟨vb,1,none⟩=some (.int .i64 sv)/\w4.cell? ⟨vb,2,none⟩=some (.int .i64 lv)/\w4.cell? ⟨vb,3,none⟩=some (.pointer (some ⟨t,0,none⟩))/\w4.cell? ⟨g,0,none⟩=some (.int .i64 b))/\PO (.returned (.tuple #[.int .i64 b,.int .i64 0])) w4
theorem alloc_walk(H:AlC w x t PO):Calls Tryz.prog 24 #[.pointer (some ⟨x,0,none⟩),.pointer (some ⟨t,0,none⟩)] w PO:=by
 have H1:=hid H
 clear H
 go_enter Tryz.func24,Tryz.ntmps24
 go_wp2_with fail
 refine Calls.mono H1.out ?_
 rintro e w1 ⟨sv,lv,rfl,h2⟩
 have H2:=hid h2
 clear h2 H1
 go_wp2_with fail
 refine Calls.mono H2.out ?_
 rintro e w2 (⟨rfl,hF⟩ | ⟨g,cap,b,rfl,h3⟩)
 ·have FIN:=hid hF
  clear hF H2
  go_wp2
  exact FIN.out
 ·obtain⟨vb,hvb⟩:∃vb,vb=w1.heap.size:=⟨_,rfl⟩
  obtain⟨kS,h4⟩:=h3 vb hvb _ rfl
  have H4:=hid h4
  rw[<- hvb]
  clear h3 h4 H2 hvb
  go_wp2_with fail
  refine Gz (S:=fun w'=>w'.cell? ⟨vb,0,none⟩=some (.pointer (some ⟨x,0,none⟩))/\w'.cell? ⟨vb,1,none⟩=some (.int .i64 sv)/\w'.cell? ⟨vb,2,none⟩=some (.int .i64 lv)/\w'.cell? ⟨vb,3,none⟩=some (.pointer (some ⟨t,0,none⟩))/\w'.cell? ⟨g,0,none⟩=some (.int .i64 b)) kS (fun hSS=>?_)
  refine Ti 0 rfl ?_
  refine Ti 1 rfl ?_
  refine Ti 2 rfl ?_
  refine Ti 3 rfl ?_
  try simp only[Act.put,zA,zB,zC]
  refine Ri 4 rfl (fun K9 hK9=>?_)
  go_simp
  go_at_call 54
  refine Calls.mono H4.out ?_
  rintro e w4 ⟨rfl,hk4,hF⟩
  have FIN:=hid hF
  clear hF H4
  refine hK9.out _ _ hk4 (fun hSS=>?_)
  try simp only[Act.put,zA,zB,zC]
  refine Ti 5 rfl ?_
  try simp only[Act.put,zA,zB,zC]
  refine Dn ?_
  clear hSS kS
  obtain⟨v0,v1,v2,v3,v4⟩:=hk4
  go_wp2
  exact FIN.out
open Go.RowKit Go.Deep
def zPd (nb:Nat):Pd:=⟨zeros (512 * nb),[],-1,false⟩
def StoP (Z:Nat->Prop) (w:World) (p nb:Nat) (e:Ending) (w':World):Prop :=
 ∃F Y',e=.returned (.tuple #[.pointer (some ⟨F.st,0,none⟩),.bool true])/\(F.p=p/\F.nb=nb)/\Idl Y' w' F 0 0 (zPd nb).read/\(∀k,Y' k->Z k\/w.heap.size<=k)/\But Z w w'
theorem sstore_fresh{nb:Nat}(hD:Dk Z w p (zeros (512 * nb)) [] (-1) false nb)(h1:64<=nb)(h2:nb<=524288) :
  Calls Tryz.prog 35 #[.pointer (some ⟨p,0,none⟩),.bool true] w (StoP Z w p nb):=by
 refine poz fun PO hPO=>?_
 have HF:Hid (∀w1 c,Below w.heap.size w w1->Cst (fun k=>w.heap.size<=k) w1 c p 16 0 0 []->Calls Tryz.prog 69 #[.pointer (some ⟨c,0,none⟩),.int .i64 0,.int .i64 64] w1 fun e w2=>e=.returned (.int .i64 0)/\Calls Tryz.prog 70 #[.pointer (some ⟨c,0,none⟩),.int .i64 0,.int .i64 64] w2 fun e w3=>∃j,e=.returned (.tuple #[.pointer (some ⟨j,0,none⟩),.int .i64 0])/\Calls Tryz.prog 71 #[.pointer (some ⟨j,0,none⟩)] w3 fun e w'=>∃st,e=.returned (.tuple #[.pointer (some ⟨st,0,none⟩),.int .i64 0])/\PO (.returned (.tuple #[.pointer (some ⟨st,0,none⟩),.bool true])) w'):=fun w1 c b1 hCs=>by
  have s1:=b1.size
  have hq:=Cq.new' (d:=zPd nb) hD hCs b1
  have hft:=hq.fits
  refine Calls.mono (Format_any hq ((0:Nat):Int) ((64:Nat):Int) (by simp only[zPd,List.length_nil];omega)) ?_
  rintro e w4 ⟨code,d',rfl,⟨Z',q1,q2⟩,b4,hcase⟩
  have hlc:layC (zPd nb) nb ((0:Nat):Int) ((64:Nat):Int)=0:=by
   unfold layC
   rw[if_neg (by simp[zPd])]
   exact placeC_ok (by decide) (by omega) h2
  rcases hcase with ⟨k1,_⟩ | ⟨_,f',b',ef,eb,_,_,hrun⟩
  ·exact absurd hlc k1
  ·have ef':f'=0:=by omega
   have eb':b'=64:=by omega
   subst ef' eb'
   obtain⟨f1,_,f3⟩:=Pd.runs_free (d:=zPd nb) rfl rfl (formatCmds 0 64)
   have hon:=format_on (by decide) (by omega) hft.1 rfl f1
   rw[hrun]at f1 f3 hon
   simp only at f1 f3 hon
   subst f1
   refine⟨rfl,?_⟩
   have hpl:=hon.puts (by decide) (by omega) h2
   have s4:=b4.size
   refine Calls.mono (Open_any q1 ((0:Nat):Int) ((64:Nat):Int) (by omega)) ?_
   intro e w5 hO
   obtain⟨b5,j,Z5,d5,s5,rfl,hj5,g5,fu5,J5,on5⟩:=OpenP.anew hO hon f3 q1.fits.1 (by decide) (by omega) h2
   have s5:=b5.size
   refine⟨j,rfl,?_⟩
   refine Calls.mono (topen_any J5.cut on5.on) ?_
   rintro e w6 ⟨st,rfl,k1,k2,k3⟩
   refine⟨st,rfl,?_⟩
   have s6:=k3.size
   have hZ5:∀k,Z5 k->k<w5.heap.size->Z k\/w.heap.size<=k:=fun k e hk=>by
    rcases Nat.lt_or_ge k w.heap.size with hk' | hk'
    ·have:=(q2 k (by omega) (g5 k (by omega) e)).1
     rcases this with r | r
     ·exact .inl r
     ·omega
    ·exact .inr hk'
   rw[hPO]
   refine⟨⟨j,c,p,st,nb⟩,fun k=>(Z5 k/\k<w5.heap.size)\/k=st,rfl,⟨rfl,rfl⟩,⟨d5,_,_,[],⟨fun k=>Z5 k/\k<w5.heap.size,J5.cut.below k3,fun k e=>.inl e,k2,fun e=>absurd (show st<w5.heap.size from e.2) (by omega),.inr rfl⟩,fu5,on5.mono (Nat.zero_le _),Nat.le_refl _,fun y _ _=>rfl,fun k e=>?_,h1,h2⟩,fun k e=>?_,?_⟩
   ·rcases e with e | e
    ·exact Nat.lt_of_lt_of_le e.2 s6
    ·exact e ▸ k2.lt
   ·rcases e with e | e
    ·exact hZ5 k e.1 e.2
    ·exact .inr (by omega)
   ·have bb:But Z w w4:=(But.of_below b1 (X:=Z)).comp b4 (fun k hk q=>by
     rcases q.1 with q | q
     ·exact q
     ·omega)
    have bb2:But Z w w5:=bb.comp b5 (fun k hk q=>by
     have:=(q2 k (by omega) q).1
     rcases this with r | r
     ·exact r
     ·omega)
    exact bb2.comp (But.of_below k3 (X:=fun _=>False)) (fun _ _ q=>q.elim)
 clear hPO hD
 go_enter Tryz.func35,Tryz.ntmps35
 go_wp2_with fail
 refine Calls.mono (CNew_ok (w:=w) p 16 (by omega) (by omega)) ?_
 rintro e w1 ⟨c,rfl,hc,hCs,b1⟩
 have HF1:=hid (HF.out w1 c b1 hCs)
 clear HF hc hCs b1
 go_wp2_with fail
 refine Calls.mono (num_any 0 w1) ?_
 rintro e w9 ⟨rfl,hw9⟩
 rw[hw9]
 clear hw9
 go_wp2_with fail
 refine Calls.mono HF1.out ?_
 rintro e w2 ⟨rfl,h3⟩
 have HF2:=hid h3
 clear h3 HF1
 go_wp2_with fail
 refine Calls.mono (num_any 0 w2) ?_
 rintro e w9 ⟨rfl,hw9⟩
 rw[hw9]
 clear hw9
 go_wp2_with fail
 refine Calls.mono HF2.out ?_
 rintro e w3 ⟨j,rfl,h3⟩
 have HF3:=hid h3
 clear h3 HF2
 go_wp2_with fail
 refine Calls.mono (num_any 0 w3) ?_
 rintro e w9 ⟨rfl,hw9⟩
 rw[hw9]
 clear hw9
 go_wp2_with fail
 refine Calls.mono HF3.out ?_
 rintro e w4 ⟨st,rfl,h3⟩
 have FIN:=hid h3
 clear h3 HF3
 go_wp2_with fail
 refine Calls.mono (num_any 0 w4) ?_
 rintro e w9 ⟨rfl,hw9⟩
 rw[hw9]
 clear hw9
 go_wp2
 exact FIN.out
open Go.RowKit
def WdC2 (o t:Nat) (PO:Ending->World->Prop) (w:World):Prop :=
 Calls Tryz.prog 13 #[.pointer (some ⟨t,0,none⟩)] w fun e w1=>e=.returned (.int .i64 0)/\Calls Tryz.prog 36 #[.pointer (some ⟨o,0,none⟩)] w1 fun e w2=>e=.returned (.bool true)/\((∃u,w2.cell? ⟨o,10,none⟩=some u)/\w2.frozen? ⟨o,10,none⟩=false)/\PO (.returned (.pointer (some ⟨o,0,none⟩))) (w2.setCell ⟨o,10,none⟩ (.pointer (some ⟨t,0,none⟩)))
def WdC1 (o g t a:Nat) (r1 c1:Int) (PO:Ending->World->Prop) (w:World):Prop:=(w.drew.cell? ⟨o,6,none⟩=some (.int .i64 (65+(a:Int)))/\w.drew.cell? ⟨g,1,none⟩=some (.int .i64 (r1))/\w.drew.cell? ⟨g+1,1,none⟩=some (.int .i64 (c1)))/\Calls Tryz.prog 18 #[.pointer (some ⟨t,0,none⟩),.int .i64 (65+(a:Int)),.int .i64 (r1),.int .i64 (c1)] w.drew fun e w1=>e=.returned (.int .i64 0)/\(w1.cell? ⟨o,6,none⟩=some (.int .i64 (65+(a:Int)))/\w1.cell? ⟨g,1,none⟩=some (.int .i64 (r1))/\w1.cell? ⟨g+1,1,none⟩=some (.int .i64 (c1)))/\WdC2 o t PO w1
def WdC0 (o g t a:Nat) (r0 r1 c0 c1:Int) (PO:Ending->World->Prop) (w:World):Prop:=(w.drew.cell? ⟨o,5,none⟩=some (.int .i64 (65))/\w.drew.cell? ⟨g,0,none⟩=some (.int .i64 (r0))/\w.drew.cell? ⟨g+1,0,none⟩=some (.int .i64 (c0)))/\Calls Tryz.prog 18 #[.pointer (some ⟨t,0,none⟩),.int .i64 (65),.int .i64 (r0),.int .i64 (c0)] w.drew fun e w1=>e=.returned (.int .i64 0)/\(w1.cell? ⟨o,5,none⟩=some (.int .i64 (65))/\w1.cell? ⟨g,0,none⟩=some (.int .i64 (r0))/\w1.cell? ⟨g+1,0,none⟩=some (.int .i64 (c0)))/\WdC1 o g t a r1 c1 PO w1
def WdC (w:World) (a b:Nat) (r0 r1 c0 c1:Int) (PO:Ending->World->Prop):Prop :=
 ∀g o w0,g=w.heap.size->o=w.heap.size+2->w0=((w.alloc (.cells #[.int .i64 (r0),.int .i64 (r1)] 26)).alloc (.cells #[.int .i64 (c0),.int .i64 (c1)] 26)).alloc (.cells #[.pointer none,.pointer none,.pointer none,.pointer none,.pointer none,.int .i64 0,.int .i64 0,.int .i64 (r0),.int .i64 (r1),.pointer none,.pointer none,.bool false] 33)->Calls Tryz.prog 21 #[.int .i64 (r0)] w0 fun e w1=>e=.returned (.int .i64 ((a:Int)))/\w1.cell? ⟨g,1,none⟩=some (.int .i64 (r1))/\Calls Tryz.prog 21 #[.int .i64 (r1)] w1 fun e w2=>e=.returned (.int .i64 ((b:Int)))/\((∃u,w2.cell? ⟨o,5,none⟩=some u)/\w2.frozen? ⟨o,5,none⟩=false/\(∃u,w2.cell? ⟨o,6,none⟩=some u)/\w2.frozen? ⟨o,6,none⟩=false) /\
  ∀w3,w3=(w2.setCell ⟨o,5,none⟩ (.int .i64 (65))).setCell ⟨o,6,none⟩ (.int .i64 (65+(a:Int)))->Calls Tryz.prog 34 #[.int .i64 (64+(a:Int)+(b:Int)+3)] w3 fun e w4=>∃p,e=.returned (.tuple #[.pointer (some ⟨p,0,none⟩),.int .i64 0])/\Calls Tryz.prog 34 #[.int .i64 67] w4 fun e w5=>∃p2,e=.returned (.tuple #[.pointer (some ⟨p2,0,none⟩),.int .i64 0])/\((∃u,w5.cell? ⟨o,0,none⟩=some u)/\w5.frozen? ⟨o,0,none⟩=false) /\
   ∀w6,w6=w5.setCell ⟨o,0,none⟩ (.pointer (some ⟨p,0,none⟩))->Calls Tryz.prog 35 #[.pointer (some ⟨p,0,none⟩),.bool true] w6 fun e w7=>∃st,e=.returned (.tuple #[.pointer (some ⟨st,0,none⟩),.bool true])/\Calls Tryz.prog 35 #[.pointer (some ⟨p2,0,none⟩),.bool true] w7 fun e w8=>∃st2,e=.returned (.tuple #[.pointer (some ⟨st2,0,none⟩),.bool true])/\((∃u,w8.cell? ⟨o,1,none⟩=some u)/\w8.frozen? ⟨o,1,none⟩=false) /\
    ∀w9,w9=w8.setCell ⟨o,1,none⟩ (.pointer (some ⟨st,0,none⟩))->Calls Tryz.prog 9 #[.pointer (some ⟨st2,0,none⟩)] w9 fun e w10=>∃t2,e=.returned (.tuple #[.pointer (some ⟨t2,0,none⟩),.int .i64 0])/\Calls Tryz.prog 9 #[.pointer (some ⟨st,0,none⟩)] w10 fun e w11=>∃t,e=.returned (.tuple #[.pointer (some ⟨t,0,none⟩),.int .i64 0])/\((∃u,w11.cell? ⟨o,2,none⟩=some u)/\w11.frozen? ⟨o,2,none⟩=false) /\
     ∀w12,w12=w11.setCell ⟨o,2,none⟩ (.pointer (some ⟨t2,0,none⟩))->WdC0 o g t a r0 r1 c0 c1 PO w12
theorem world_walk{a:Nat}{r0 r1 c0 c1:Int}(ha:a<=600)(hb:b<=600)(H:WdC w a b r0 r1 c0 c1 PO):Calls Tryz.prog 8 #[.agg #[.int .i64 (r0),.int .i64 (r1)],.agg #[.int .i64 (c0),.int .i64 (c1)]] w PO:=by
 obtain⟨w0,hw0⟩:∃w0,w0=((w.alloc (.cells #[.int .i64 (r0),.int .i64 (r1)] 26)).alloc (.cells #[.int .i64 (c0),.int .i64 (c1)] 26)).alloc (.cells #[.pointer none,.pointer none,.pointer none,.pointer none,.pointer none,.int .i64 0,.int .i64 0,.int .i64 (r0),.int .i64 (r1),.pointer none,.pointer none,.bool false] 33):=⟨_,rfl⟩
 have HW:=hid hw0
 have H1:=hid (H w.heap.size (w.heap.size+2) w0 rfl rfl hw0)
 have na:¬(a:Int)<0:=by omega
 have nb:¬(b:Int)<0:=by omega
 clear H hw0
 go_enter Tryz.func8,Tryz.ntmps8
 go_wp2_with fail
 rw[<- HW.out]
 refine Calls.mono H1.out ?_
 rintro e w1 ⟨rfl,k1,h2⟩
 have H2:=hid h2
 clear h2 H1 HW
 go_wp2_with fail
 refine Calls.mono H2.out ?_
 rintro e w2 ⟨rfl,⟨⟨u5,k5⟩,f5,⟨u6,k6⟩,f6⟩,h3⟩
 have H3:=hid (h3 _ rfl)
 clear h3 H2 k1
 go_wp2_with fail
 refine Calls.mono H3.out ?_
 rintro e w4 ⟨p,rfl,h5⟩
 have H5:=hid h5
 clear h5 H3 k5 k6 f5 f6
 go_wp2_with fail
 refine Calls.mono H5.out ?_
 rintro e w5 ⟨p2,rfl,⟨⟨u0,k0⟩,f0⟩,h6⟩
 have H6:=hid (h6 _ rfl)
 clear h6 H5
 go_wp2_with fail
 refine Calls.mono (num_any 0 w5) ?_
 rintro e w9 ⟨rfl,hw9⟩
 rw[hw9]
 clear hw9
 go_wp2_with fail
 refine Calls.mono (num_any 0 w5) ?_
 rintro e w9 ⟨rfl,hw9⟩
 rw[hw9]
 clear hw9
 go_wp2_with fail
 refine Calls.mono H6.out ?_
 rintro e w7 ⟨st,rfl,h7⟩
 have H7:=hid h7
 clear h7 H6 k0 f0
 go_wp2_with fail
 refine Calls.mono H7.out ?_
 rintro e w8 ⟨st2,rfl,⟨⟨u1,k1⟩,f1⟩,h9⟩
 have H9:=hid (h9 _ rfl)
 clear h9 H7
 go_wp2_with fail
 refine Calls.mono H9.out ?_
 rintro e w10 ⟨t2,rfl,h10⟩
 have H10:=hid h10
 clear h10 H9 k1 f1
 go_wp2_with fail
 refine Calls.mono H10.out ?_
 rintro e w11 ⟨t,rfl,⟨⟨u2,k2⟩,f2⟩,h12⟩
 have H12:=hid (h12 _ rfl)
 clear h12 H10
 go_wp2_with fail
 refine Calls.mono (num_any 0 w11) ?_
 rintro e w9 ⟨rfl,hw9⟩
 rw[hw9]
 clear hw9
 go_wp2_with fail
 refine Calls.mono (num_any 0 w11) ?_
 rintro e w9 ⟨rfl,hw9⟩
 rw[hw9]
 clear hw9
 go_wp2_with fail
 go_loopw [20] (fun iv wr=>∃q:Nat,q<=2/\iv=.int .i64 (q:Int)/\((q=0/\WdC0 (w.heap.size+2) w.heap.size t a r0 r1 c0 c1 PO wr)\/(q=1/\WdC1 (w.heap.size+2) w.heap.size t a r1 c1 PO wr)\/(q=2/\WdC2 (w.heap.size+2) t PO wr))) (fun iv _=>2-(intOf iv).toNat)
 case atStart=>exact⟨0,by decide,rfl,.inl ⟨rfl,H12.out⟩⟩
 case round=>
  clear H12 k2 f2
  rename World=>wo
  obtain⟨q,hq2,rfl,hR⟩:=hrel
  rcases hR with ⟨hq,hR⟩ | ⟨hq,hR⟩ | ⟨hq,hR⟩
  ·subst hq
   obtain⟨kS,hcall⟩:=hR
   have HC:=hid hcall
   clear hcall
   go_wp2_with fail
   refine Gz (S:=fun w'=>w'.cell? ⟨w.heap.size+2,5,none⟩=some (.int .i64 (65))/\w'.cell? ⟨w.heap.size,0,none⟩=some (.int .i64 (r0))/\w'.cell? ⟨w.heap.size+1,0,none⟩=some (.int .i64 (c0))) kS (fun hSS=>?_)
   refine Ti 0 rfl ?_
   refine Ti 1 rfl ?_
   refine Ti 2 rfl ?_
   refine Ti 3 rfl ?_
   refine Ti 4 rfl ?_
   refine Ti 5 rfl ?_
   try simp only[Act.put,zA,zB,zC]
   refine Ti 6 rfl ?_
   refine Ti 7 rfl ?_
   refine Ti 8 rfl ?_
   refine Ti 9 rfl ?_
   refine Ti 10 rfl ?_
   refine Ti 11 rfl ?_
   try simp only[Act.put,zA,zB,zC]
   refine Ti 12 rfl ?_
   try simp only[Act.put,zA,zB,zC]
   refine Ri 13 rfl (fun K9 hK9=>?_)
   go_simp
   go_at_call 18
   refine Calls.mono HC.out ?_
   rintro e w1 ⟨rfl,hk1,h3⟩
   have NX:=hid h3
   clear h3 HC
   refine hK9.out _ _ hk1 (fun hSS=>?_)
   try simp only[Act.put,zA,zB,zC]
   refine Ri 14 rfl (fun K9 hK9=>?_)
   go_simp
   go_at_call 11
   refine Calls.mono (num_any 0 w1) ?_
   rintro e w9 ⟨rfl,hw9⟩
   rw[hw9]
   clear hw9
   refine hK9.out _ _ hk1 (fun hSS=>?_)
   try simp only[Act.put,zA,zB,zC]
   refine Ti 15 rfl ?_
   try simp only[Act.put,zA,zB,zC]
   refine Dn ?_
   clear hSS kS hk1
   go_wp2_with fail
   go_roundw
   case rel=>exact⟨1,by decide,by go_num,.inr (.inl ⟨rfl,NX.out⟩)⟩
   case measure=>simp[intOf]
  ·subst hq
   obtain⟨kS,hcall⟩:=hR
   have HC:=hid hcall
   clear hcall
   go_wp2_with fail
   refine Gz (S:=fun w'=>w'.cell? ⟨w.heap.size+2,6,none⟩=some (.int .i64 (65+(a:Int)))/\w'.cell? ⟨w.heap.size,1,none⟩=some (.int .i64 (r1))/\w'.cell? ⟨w.heap.size+1,1,none⟩=some (.int .i64 (c1))) kS (fun hSS=>?_)
   refine Ti 0 rfl ?_
   refine Ti 1 rfl ?_
   refine Ti 2 rfl ?_
   refine Ti 3 rfl ?_
   refine Ti 4 rfl ?_
   refine Ti 5 rfl ?_
   try simp only[Act.put,zA,zB,zC]
   refine Ti 6 rfl ?_
   refine Ti 7 rfl ?_
   refine Ti 8 rfl ?_
   refine Ti 9 rfl ?_
   refine Ti 10 rfl ?_
   refine Ti 11 rfl ?_
   try simp only[Act.put,zA,zB,zC]
   refine Ti 12 rfl ?_
   try simp only[Act.put,zA,zB,zC]
   refine Ri 13 rfl (fun K9 hK9=>?_)
   go_simp
   go_at_call 18
   refine Calls.mono HC.out ?_
   rintro e w1 ⟨rfl,hk1,h3⟩
   have NX:=hid h3
   clear h3 HC
   refine hK9.out _ _ hk1 (fun hSS=>?_)
   try simp only[Act.put,zA,zB,zC]
   refine Ri 14 rfl (fun K9 hK9=>?_)
   go_simp
   go_at_call 11
   refine Calls.mono (num_any 0 w1) ?_
   rintro e w9 ⟨rfl,hw9⟩
   rw[hw9]
   clear hw9
   refine hK9.out _ _ hk1 (fun hSS=>?_)
   try simp only[Act.put,zA,zB,zC]
   refine Ti 15 rfl ?_
   try simp only[Act.put,zA,zB,zC]
   refine Dn ?_
   clear hSS kS hk1
   go_wp2_with fail
   go_roundw
   case rel=>exact⟨2,by decide,by go_num,.inr (.inr ⟨rfl,NX.out⟩)⟩
   case measure=>simp[intOf]
  ·subst hq
   have HC:=hid hR
   clear hR
   go_wp2_with fail
   refine Calls.mono HC.out ?_
   rintro e w1 ⟨rfl,h2⟩
   have H2:=hid h2
   clear h2 HC
   go_wp2_with fail
   refine Calls.mono (num_any 0 w1) ?_
   rintro e w9 ⟨rfl,hw9⟩
   rw[hw9]
   clear hw9
   go_wp2_with fail
   refine Calls.mono H2.out ?_
   rintro e w2 ⟨rfl,⟨⟨u,k⟩,f⟩,h3⟩
   have FIN:=hid h3
   clear h3 H2
   go_wp2
   exact FIN.out
end Go.Proofs.YtlefjidbpjkhlaaGreat
