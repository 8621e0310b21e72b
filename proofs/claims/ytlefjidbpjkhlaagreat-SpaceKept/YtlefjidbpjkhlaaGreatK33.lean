import Derived.Test.YtlefjidbpjkhlaaGreatK32
import Derived.Test.YtlefjidbpjkhlaaGreatK11
import Derived.Deep.DeepCutAuto
import Derived.Test.YtlefjidbpjkhlaaGreatK30
import Derived.Test.YtlefjidbpjkhlaaGreatK31
import Derived.Test.YtlefjidbpjkhlaaGreatK20
set_option maxRecDepth 100000
set_option maxHeartbeats 16000000
namespace Go.Proofs.YtlefjidbpjkhlaaGreat
variable {A A' w:World}
variable {B K K' N cp f g1 m n q r st t x:Nat}
variable {lf:Int}
variable {PO:Ending->World->Prop}
variable {X Y Y':Nat->Prop}
variable {F:Cf}
variable {C:Nat->List Int}
variable {L:Nat->Option (List Int)}
variable {Ms:List (Nat->Option (List Int))}
variable {v:Value}
variable {z1 z2 zs:List Int}
open Go.RowKit Go.Deep
theorem fld99(a b:Int)(w:World):Sem.run Tryz.prog (Instr.field 99 (.agg #[.int .i64 a,.int .i64 b]) 1) w=.ok (.int .i64 b) w:=by kernel_rfl
def Rb2 (w:World) (g:Nat):Prop:=w.heap[g]?=some (.cells #[.pointer none,.bool false] 164 (0,0))
theorem Rb2.cell{g:Nat}(h:Rb2 w g)(i:Nat):w.cell? ⟨g,i,none⟩=#[.pointer none,.bool false][i]?:=by
 unfold Rb2 at h
 simp[World.cell?,h]
theorem Rb2.frozen{g:Nat}(h:Rb2 w g)(i:Nat):w.frozen? ⟨g,i,none⟩=false:=by
 unfold Rb2 at h
 simp[World.frozen?,h]
theorem Rb2.set{g:Nat}(h:Rb2 w g)(a b:Value):((w.setCell ⟨g,0,none⟩ a).setCell ⟨g,1,none⟩ b).heap[g]?=some (.cells #[a,b] 164 (0,0)):=by
 unfold Rb2 at h
 simp only[World.setCell,Array.getElem?_modify]
 simp[h]
def BgC (w:World) (x f r st t:Nat) (sz lf:Int) (PO:Ending->World->Prop):Prop :=
 ∀w0,w0=((w.alloc (.cells #[.pointer (some ⟨x,0,none⟩),.int .i64 sz,.int .i64 lf,.pointer (some ⟨t,0,none⟩)] 103)).alloc (.cells #[.pointer none,.bool false] 164)).drew->(w0.cell? ⟨w.heap.size,0,none⟩=some (.pointer (some ⟨x,0,none⟩))/\w0.cell? ⟨w.heap.size,1,none⟩=some (.int .i64 sz)/\w0.cell? ⟨w.heap.size,2,none⟩=some (.int .i64 lf)/\w0.cell? ⟨w.heap.size,3,none⟩=some (.pointer (some ⟨t,0,none⟩))/\w0.cell? ⟨x,2,none⟩=some (.pointer (some ⟨st,0,none⟩))/\w0.cell? ⟨x,0,none⟩=some (.int .i64 (f:Int))/\w0.cell? ⟨x,1,none⟩=some (.int .i64 (r:Int)))/\Calls Tryz.prog 30 #[.pointer (some ⟨st,0,none⟩),.int .i64 (f:Int)] w0 fun e w1=>∃g cp,e=.returned (.tuple #[.slice (some ⟨g,0,none⟩) 512 cp,.int .i64 0])/\(w1.cell? ⟨w.heap.size,0,none⟩=some (.pointer (some ⟨x,0,none⟩))/\w1.cell? ⟨w.heap.size,1,none⟩=some (.int .i64 sz)/\w1.cell? ⟨w.heap.size,2,none⟩=some (.int .i64 lf)/\w1.cell? ⟨w.heap.size,3,none⟩=some (.pointer (some ⟨t,0,none⟩))/\w1.cell? ⟨x,2,none⟩=some (.pointer (some ⟨st,0,none⟩))/\w1.cell? ⟨x,0,none⟩=some (.int .i64 (f:Int))/\w1.cell? ⟨x,1,none⟩=some (.int .i64 (r:Int)))/\Calls Tryz.prog 140 #[.agg #[.int .i64 (f:Int),.int .i64 (r:Int)],.slice (some ⟨g,0,none⟩) 512 cp,.int .i64 0] w1 fun e w2=>∃b1,e=.returned (.bool b1)/\(w2.cell? ⟨w.heap.size,0,none⟩=some (.pointer (some ⟨x,0,none⟩))/\w2.cell? ⟨w.heap.size,1,none⟩=some (.int .i64 sz)/\w2.cell? ⟨w.heap.size,2,none⟩=some (.int .i64 lf)/\w2.cell? ⟨w.heap.size,3,none⟩=some (.pointer (some ⟨t,0,none⟩))/\w2.cell? ⟨x,2,none⟩=some (.pointer (some ⟨st,0,none⟩))/\w2.cell? ⟨x,0,none⟩=some (.int .i64 (f:Int))/\w2.cell? ⟨x,1,none⟩=some (.int .i64 (r:Int)))/\Rb2 w2 (w.heap.size+1)/\(b1=false->PO (.returned (.tuple #[.agg #[.pointer (some ⟨st,0,none⟩),.bool false],.int .i64 0])) ((w2.setCell ⟨w.heap.size+1,0,none⟩ (.pointer (some ⟨st,0,none⟩))).setCell ⟨w.heap.size+1,1,none⟩ (.bool false)))/\(b1=true->Calls Tryz.prog 94 #[.slice (some ⟨g,0,none⟩) 512 cp] w2 fun e w3=>∃sz' lf':Int,e=.returned (.agg #[.int .i64 sz',.int .i64 lf'])/\(w3.cell? ⟨w.heap.size,0,none⟩=some (.pointer (some ⟨x,0,none⟩))/\w3.cell? ⟨w.heap.size,1,none⟩=some (.int .i64 sz)/\w3.cell? ⟨w.heap.size,2,none⟩=some (.int .i64 lf)/\w3.cell? ⟨w.heap.size,3,none⟩=some (.pointer (some ⟨t,0,none⟩))/\w3.cell? ⟨x,2,none⟩=some (.pointer (some ⟨st,0,none⟩))/\w3.cell? ⟨x,0,none⟩=some (.int .i64 (f:Int))/\w3.cell? ⟨x,1,none⟩=some (.int .i64 (r:Int)))/\Rb2 w3 (w.heap.size+1)/\(lf'=0->PO (.returned (.tuple #[.agg #[.pointer (some ⟨st,0,none⟩),.bool false],.int .i64 0])) ((w3.setCell ⟨w.heap.size+1,0,none⟩ (.pointer (some ⟨st,0,none⟩))).setCell ⟨w.heap.size+1,1,none⟩ (.bool false)))/\(lf'≠0->lf'=lf->PO (.returned (.tuple #[.agg #[.pointer (some ⟨st,0,none⟩),.bool true],.int .i64 0])) ((w3.setCell ⟨w.heap.size+1,0,none⟩ (.pointer (some ⟨st,0,none⟩))).setCell ⟨w.heap.size+1,1,none⟩ (.bool true)))/\(lf'≠0->lf'≠lf->Calls Tryz.prog 184 #[.agg #[.pointer (some ⟨x,0,none⟩),.int .i64 sz,.int .i64 lf,.pointer (some ⟨t,0,none⟩)]] w3 fun e w4=>∃b2,e=.returned (.tuple #[.bool b2,.int .i64 0])/\(w4.cell? ⟨w.heap.size,0,none⟩=some (.pointer (some ⟨x,0,none⟩))/\w4.cell? ⟨w.heap.size,1,none⟩=some (.int .i64 sz)/\w4.cell? ⟨w.heap.size,2,none⟩=some (.int .i64 lf)/\w4.cell? ⟨w.heap.size,3,none⟩=some (.pointer (some ⟨t,0,none⟩))/\w4.cell? ⟨x,2,none⟩=some (.pointer (some ⟨st,0,none⟩))/\w4.cell? ⟨x,0,none⟩=some (.int .i64 (f:Int))/\w4.cell? ⟨x,1,none⟩=some (.int .i64 (r:Int)))/\Rb2 w4 (w.heap.size+1)/\PO (.returned (.tuple #[.agg #[.pointer (some ⟨st,0,none⟩),.bool b2],.int .i64 0])) ((w4.setCell ⟨w.heap.size+1,0,none⟩ (.pointer (some ⟨st,0,none⟩))).setCell ⟨w.heap.size+1,1,none⟩ (.bool b2))))
theorem begun_walk{sz:Int}(H:BgC w x f r st t sz lf PO):Calls Tryz.prog 145 #[.agg #[.pointer (some ⟨x,0,none⟩),.int .i64 sz,.int .i64 lf,.pointer (some ⟨t,0,none⟩)]] w PO:=by
 obtain⟨w0,hw0⟩:∃w0,w0=((w.alloc (.cells #[.pointer (some ⟨x,0,none⟩),.int .i64 sz,.int .i64 lf,.pointer (some ⟨t,0,none⟩)] 103)).alloc (.cells #[.pointer none,.bool false] 164)).drew:=⟨_,rfl⟩
 obtain⟨kS,h1⟩:=H w0 hw0
 have H1:=hid h1
 have HW:=hid hw0
 rw[hw0]at kS
 clear H h1 hw0
 go_enter Tryz.func145,Tryz.ntmps145
 go_wp2_with fail
 refine Gz (S:=fun w'=>w'.cell? ⟨w.heap.size,0,none⟩=some (.pointer (some ⟨x,0,none⟩))/\w'.cell? ⟨w.heap.size,1,none⟩=some (.int .i64 sz)/\w'.cell? ⟨w.heap.size,2,none⟩=some (.int .i64 lf)/\w'.cell? ⟨w.heap.size,3,none⟩=some (.pointer (some ⟨t,0,none⟩))/\w'.cell? ⟨x,2,none⟩=some (.pointer (some ⟨st,0,none⟩))/\w'.cell? ⟨x,0,none⟩=some (.int .i64 (f:Int))/\w'.cell? ⟨x,1,none⟩=some (.int .i64 (r:Int))) kS (fun hSS=>?_)
 refine Ti 0 rfl ?_
 refine Ti 1 rfl ?_
 refine Ti 2 rfl ?_
 refine Ti 3 rfl ?_
 refine Ti 4 rfl ?_
 refine Ti 5 rfl ?_
 try simp only[Act.put,zA,zB,zC]
 refine Ti 6 rfl ?_
 refine Ti 7 rfl ?_
 refine Ti 8 rfl ?_
 refine Ti 9 rfl ?_
 refine Ti 10 rfl ?_
 try simp only[Act.put,zA,zB,zC]
 refine Ri 11 rfl (fun K9 hK9=>?_)
 go_simp
 go_at_call 30
 rw[<- HW.out]
 refine Calls.mono H1.out ?_
 rintro e w1 ⟨g,cp,rfl,hk1,h2⟩
 have H2:=hid h2
 clear h2 H1 HW
 refine hK9.out _ _ hk1 (fun hSS=>?_)
 try simp only[Act.put,zA,zB,zC]
 refine Ti 12 rfl ?_
 refine Ti 13 rfl ?_
 try simp only[Act.put,zA,zB,zC]
 refine Ti 14 rfl ?_
 refine Ti 15 rfl ?_
 refine Ti 16 rfl ?_
 try simp only[Act.put,zA,zB,zC]
 refine Dn ?_
 clear hSS kS
 obtain⟨a0,a1,a2,a3,a4,a5,a6⟩:=hk1
 go_wp2_with fail
 refine Calls.mono H2.out ?_
 rintro e w2 ⟨b1,rfl,⟨c0,c1,c2,c3,c4,c5,c6⟩,hrb,hf,ht⟩
 have RBH:=hid hrb
 clear hrb H2 a0 a1 a2 a3 a4 a5 a6
 cases b1 with
 | false=>
  have FIN:=hid (hf rfl)
  clear hf ht
  have e0:=RBH.out.cell 0
  have e1:=RBH.out.cell 1
  have g0:=RBH.out.frozen 0
  have g1:=RBH.out.frozen 1
  simp only[List.getElem?_toArray,List.getElem?_cons_zero,List.getElem?_cons_succ]at e0 e1
  go_wp2
  (try simp only[Exit.inBlock,Exit.then])
  exact bodyPost_ret (results_row_tmp rfl _ _ (w.heap.size+1) 164 #[.pointer (some ⟨st,0,none⟩),.bool false] (0,0) _ (.int .i64 0) rfl rfl (RBH.out.set _ _) Tryz.underlying164 rfl (by kernel_rfl)) rfl FIN.out
 | true=>
  have H3:=hid (ht rfl)
  clear hf ht RBH
  go_wp2_with fail
  refine Calls.mono H3.out ?_
  rintro e w3 ⟨sz',lf',rfl,⟨d0,d1,d2,d3,d4,d5,d6⟩,hrb,h0,h1,h2⟩
  have RBH:=hid hrb
  have fl:=fun u=>fld99 sz' lf' u
  clear hrb H3 c0 c1 c2 c3 c4 c5 c6
  by_cases hz:lf'=0
  ·have FIN:=hid (h0 hz)
   subst hz
   clear h0 h1 h2
   have e0:=RBH.out.cell 0
   have e1:=RBH.out.cell 1
   have g0:=RBH.out.frozen 0
   have g1:=RBH.out.frozen 1
   simp only[List.getElem?_toArray,List.getElem?_cons_zero,List.getElem?_cons_succ]at e0 e1
   go_wp2
   (try simp only[Exit.inBlock,Exit.then])
   exact bodyPost_ret (results_row_tmp rfl _ _ (w.heap.size+1) 164 #[.pointer (some ⟨st,0,none⟩),.bool false] (0,0) _ (.int .i64 0) rfl rfl (RBH.out.set _ _) Tryz.underlying164 rfl (by kernel_rfl)) rfl FIN.out
  ·by_cases hl:lf'=lf
   ·have FIN:=hid (h1 hz hl)
    subst hl
    clear h0 h1 h2
    have e0:=RBH.out.cell 0
    have e1:=RBH.out.cell 1
    have g0:=RBH.out.frozen 0
    have g1:=RBH.out.frozen 1
    simp only[List.getElem?_toArray,List.getElem?_cons_zero,List.getElem?_cons_succ]at e0 e1
    go_wp2
    (try simp only[Exit.inBlock,Exit.then])
    exact bodyPost_ret (results_row_tmp rfl _ _ (w.heap.size+1) 164 #[.pointer (some ⟨st,0,none⟩),.bool true] (0,0) _ (.int .i64 0) rfl rfl (RBH.out.set _ _) Tryz.underlying164 rfl (by kernel_rfl)) rfl FIN.out
   ·have H4:=hid (h2 hz hl)
    clear h0 h1 h2 RBH
    go_wp2_with fail
    refine Calls.mono H4.out ?_
    rintro e w4 ⟨b2,rfl,⟨c0,c1,c2,c3,c4,c5,c6⟩,hrb,hF⟩
    have RBH:=hid hrb
    have FIN:=hid hF
    clear hrb hF H4 d0 d1 d2 d3 d4 d5 d6
    have e0:=RBH.out.cell 0
    have e1:=RBH.out.cell 1
    have g0:=RBH.out.frozen 0
    have g1:=RBH.out.frozen 1
    simp only[List.getElem?_toArray,List.getElem?_cons_zero,List.getElem?_cons_succ]at e0 e1
    go_wp2
    (try simp only[Exit.inBlock,Exit.then])
    exact bodyPost_ret (results_row_tmp rfl _ _ (w.heap.size+1) 164 #[.pointer (some ⟨st,0,none⟩),.bool b2] (0,0) _ (.int .i64 0) rfl rfl (RBH.out.set _ _) Tryz.underlying164 rfl (by kernel_rfl)) rfl FIN.out
def bgn (C:Nat->List Int) (f r:Nat) (lf:Int):Bool:=if isPg r 0 (C f)=false then false else if lfOf (C f)=0 then false else if lfOf (C f)=lf then true else whl C f r
theorem Opn.begun(h:Opn Y w F K N C t L Ms n)(hx:Spb w x f r F.st)(hY:¬Y x)(sz lf:Int)(hr:r<=262144)(hK:K+1+pagesN r<4611686018427387904)(h1:64<=f)(h2:f+pagesN r<=F.nb)(h3:1<=pagesN r) :
  Calls Tryz.prog 145 #[.agg #[.pointer (some ⟨x,0,none⟩),.int .i64 sz,.int .i64 lf,.pointer (some ⟨t,0,none⟩)]] w fun e w'=>∃K' Y',e=.returned (.tuple #[.agg #[.pointer (some ⟨F.st,0,none⟩),.bool (bgn C f r lf)],.int .i64 0])/\K'<=K+1+pagesN r/\Opn Y' w' F K' N C t L Ms n/\Gr Y Y' w/\But Y w w':=by
 refine begun_walk (f:=f) (r:=r) (st:=F.st) (fun w0 hw0=>?_)
 have hxl:=hx.lt
 have hlt:=h.lt
 have z0:w0.heap.size=w.heap.size+2:=by rw[hw0];simp
 have b0:Below w.heap.size w w0:=by rw[hw0];exact (((Below.refl _ _).alloc (Nat.le_refl _) _).alloc (by simp) _).drew
 have hv0:w0.heap[w.heap.size]?=some (.cells #[.pointer (some ⟨x,0,none⟩),.int .i64 sz,.int .i64 lf,.pointer (some ⟨t,0,none⟩)] 103 (0,0)):=by rw[hw0];exact (heap2 _ _ _).1
 have hc0:Rb2 w0 (w.heap.size+1):=by rw[hw0];exact (heap2 _ _ _).2
 have hx0:Spb w0 x f r F.st:=hx.keep (b0.block x hxl)
 have ST:∀w',But Y w0 w'->(w'.cell? ⟨w.heap.size,0,none⟩=some (.pointer (some ⟨x,0,none⟩))/\w'.cell? ⟨w.heap.size,1,none⟩=some (.int .i64 sz)/\w'.cell? ⟨w.heap.size,2,none⟩=some (.int .i64 lf)/\w'.cell? ⟨w.heap.size,3,none⟩=some (.pointer (some ⟨t,0,none⟩))/\w'.cell? ⟨x,2,none⟩=some (.pointer (some ⟨F.st,0,none⟩))/\w'.cell? ⟨x,0,none⟩=some (.int .i64 (f:Int))/\w'.cell? ⟨x,1,none⟩=some (.int .i64 (r:Int)))/\Rb2 w' (w.heap.size+1):=fun w' b=>by
  have hv:=(b.block w.heap.size (by omega) (fun q=>by have:=hlt _ q;omega)).trans hv0
  have hb:Rb2 w' (w.heap.size+1):=(b.block (w.heap.size+1) (by omega) (fun q=>by have:=hlt _ q;omega)).trans hc0
  have hx':=hx0.keep (b.block x hx0.lt hY)
  exact⟨⟨by simp[World.cell?,hv],by simp[World.cell?,hv],by simp[World.cell?,hv],by simp[World.cell?,hv],hx'.cell 2,hx'.cell 0,hx'.cell 1⟩,hb⟩
 have FIN:∀(bb:Bool) K' Y' w',bb=bgn C f r lf->K'<=K+1+pagesN r->Opn Y' w' F K' N C t L Ms n->Gr Y Y' w0->But Y w0 w'->∃K2 Y2,(.returned (.tuple #[.agg #[.pointer (some ⟨F.st,0,none⟩),.bool bb],.int .i64 0]):Ending)=.returned (.tuple #[.agg #[.pointer (some ⟨F.st,0,none⟩),.bool (bgn C f r lf)],.int .i64 0])/\K2<=K+1+pagesN r/\Opn Y2 ((w'.setCell ⟨w.heap.size+1,0,none⟩ (.pointer (some ⟨F.st,0,none⟩))).setCell ⟨w.heap.size+1,1,none⟩ (.bool bb)) F K2 N C t L Ms n/\Gr Y Y2 w/\But Y w ((w'.setCell ⟨w.heap.size+1,0,none⟩ (.pointer (some ⟨F.st,0,none⟩))).setCell ⟨w.heap.size+1,1,none⟩ (.bool bb)):=fun bb K' Y' w' e hk q1 q2 q3=>by
  have s3:=q3.size
  have nY:¬Y' (w.heap.size+1):=fun q=>by
   have:=hlt _ (q2 _ (by omega) q)
   omega
  have bs:But (fun k=>k=w.heap.size+1) w' ((w'.setCell ⟨w.heap.size+1,0,none⟩ (.pointer (some ⟨F.st,0,none⟩))).setCell ⟨w.heap.size+1,1,none⟩ (.bool bb)):=((But.refl (fun k=>k=w.heap.size+1) w').setCell (p:=⟨w.heap.size+1,0,none⟩) rfl _).setCell (p:=⟨w.heap.size+1,1,none⟩) rfl _
  refine⟨K',Y',by rw[e],hk,q1.keep bs (fun k _ a b=>nY (a ▸ b)),fun k hk q=>q2 k (by omega) q,?_⟩
  exact ((But.of_below b0 (X:=Y)).trans q3).comp bs (fun k hk q=>by omega)
 refine⟨(ST w0 (But.refl _ _)).1,?_⟩
 refine Calls.mono ((h.below b0).sread (by omega) f h1 (by omega)) ?_
 rintro e w1 ⟨g,cp,Y1,rfl,r1,r2,r3,r4,r5,r6,r7⟩
 refine⟨g,cp,rfl,(ST w1 r7).1,Calls.mono (isPage_any (r:=r) (n:=0) (f:Int) hr (by omega) r3 r4) ?_⟩
 rintro e w2 ⟨rfl,b2⟩
 have B2:But Y w0 w2:=r7.comp (But.of_below b2 (X:=fun _=>False)) (fun _ _ q=>q.elim)
 obtain⟨t1,t2⟩:=ST w2 B2
 refine⟨_,rfl,t1,t2,fun hb=>?_,fun hb=>?_⟩
 ·exact FIN false _ Y1 w2 (by unfold bgn;rw[if_pos hb]) (by omega) (r1.below b2) r6 B2
 ·refine Calls.mono (shead_any (r3.keep (b2.block g r3.lt)) r4) ?_
  rintro e w3 ⟨rfl,b3⟩
  have B3:But Y w0 w3:=B2.comp (But.of_below b3 (X:=fun _=>False)) (fun _ _ q=>q.elim)
  obtain⟨t3,t4⟩:=ST w3 B3
  have h3':=(r1.below b2).below b3
  have hb':¬isPg r 0 (C f)=false:=by rw[hb];decide
  refine⟨_,_,rfl,t3,t4,fun hz=>?_,fun hz hl=>?_,fun hz hl=>?_⟩
  ·exact FIN false _ Y1 w3 (by unfold bgn;rw[if_neg hb',if_pos hz]) (by omega) h3' r6 B3
  ·exact FIN true _ Y1 w3 (by unfold bgn;rw[if_neg hb',if_neg hz,if_pos hl]) (by omega) h3' r6 B3
  ·have hx3:Spb w3 x f r F.st:=hx0.keep (B3.block x hx0.lt hY)
   refine Calls.mono (h3'.isWhole hx3 (fun q=>hY (r6 x hx0.lt q)) sz lf hr (by omega) h1 h2) ?_
   rintro e w4 ⟨K4,Y4,rfl,m1,m2,m3,m4⟩
   have s3:=B3.size
   have B4:But Y w0 w4:=B3.comp m4 r6
   obtain⟨t5,t6⟩:=ST w4 B4
   exact⟨_,rfl,t5,t6,FIN _ _ Y4 w4 (by unfold bgn;rw[if_neg hb',if_neg hz,if_neg hl]) (by omega) m2 (r6.trans m3 s3) B4⟩
open Go.RowKit Go.Deep
def Bxk (B:Nat) (Y:Nat->Prop) (A:World) (q:Nat) (v:Value):Prop:=B<=q/\¬Y q/\A.heap[q]?=some (.cells #[v] 65 (0,0))
theorem Bxk.cell(h:Bxk B Y A q v):A.cell? ⟨q,0,none⟩=some v:=by simp[World.cell?,h.2.2]
theorem Bxk.frozen(h:Bxk B Y A q v):A.frozen? ⟨q,0,none⟩=false:=by simp[World.frozen?,h.2.2]
theorem Bxk.lt(h:Bxk B Y A q v):q<A.heap.size:=(Array.getElem?_eq_some_iff.1 h.2.2).1
theorem Bxk.keep(h:Bxk B Y A q v)(hb:But Y A A')(g:Gr Y Y' A):Bxk B Y' A' q v:=⟨h.1,fun e=>h.2.1 (g q h.lt e),(hb.block q h.lt h.2.1).trans h.2.2⟩
theorem Bxk.but(h:Bxk B Y A q v)(hb:But X A A')(hx:¬X q):Bxk B Y A' q v:=⟨h.1,h.2.1,(hb.block q h.lt hx).trans h.2.2⟩
theorem Bxk.set(h:Bxk B Y A q v)(u:Value):Bxk B Y (A.setCell ⟨q,0,none⟩ u) q u:=⟨h.1,h.2.1,by
 simp only[World.setCell,Array.getElem?_modify]
 simp[h.2.2]⟩
theorem Bxk.ne{g:Nat}(h:Bxk B Y A q v)(ho:Own A g m cp zs):g≠q:=fun e=>by
 obtain⟨cur,hc⟩:=own_cur5 ho
 rw[e,h.2.2]at hc
 cases hc
structure GfC (Y:Nat->Prop) (w0:World) (F:Cf) (K N:Nat) (C:Nat->List Int) (t:Nat) (L:Nat->Option (List Int)) (Ms:List (Nat->Option (List Int))) (n x f r k gb:Nat) (sz lf bk zk:Int) (b ab:Bool):Prop where
 sp:Spb w0 x f r F.st
 nx:¬Y x
 gbk:w0.heap[gb]?=some (.cells #[.pointer (some ⟨x,0,none⟩),.int .i64 sz,.int .i64 lf,.pointer (some ⟨t,0,none⟩),.pointer (some ⟨F.st,0,none⟩),.bool b,.int .i64 (k:Int),.int .i64 bk,.int .i64 zk,.bool ab] 166 (0,0))
 lt:∀q,Y q->q<gb
 hr:r<=262144
 hk:k<=1000
 hK:K+2<4611686018427387904
 f1:64<=f+(indexN r+k)
 f2:f+(indexN r+k)<F.nb
 pg:isPg r (indexN r+k) ((L (f+(indexN r+k))).getD (C (f+(indexN r+k))))=true
def GfQ (B:Nat) (Y:Nat->Prop) (A:World) (z1 z2:List Int) (g cp g2 cp2:Nat):Prop:=(Own A g 512 cp z1/\Pl.isB z1/\¬Y g/\B<=g)/\(Own A g2 512 cp2 z2/\Pl.isB z2/\¬Y g2/\B<=g2)/\g≠g2
def GfS (Y:Nat->Prop) (w0:World) (F:Cf) (K N:Nat) (C:Nat->List Int) (t:Nat) (L:Nat->Option (List Int)) (Ms:List (Nat->Option (List Int))) (n x f r k gb:Nat) (sz lf bk zk:Int) (b ab:Bool) (s:Nat) (b4 b5:Option Nat) (v4 v5:Value) (g cp g2 cp2:Nat) (A:World):Prop :=
 GfC Y w0 F K N C t L Ms n x f r k gb sz lf bk zk b ab/\∃Y',Opn Y' A F (if s=2 then K+2 else K) N C t L Ms n/\Gr Y Y' w0/\But Y w0 A/\(∀q,b4=some q->Bxk w0.heap.size Y' A q v4)/\(∀q,b5=some q->Bxk w0.heap.size Y' A q v5)/\(∀q q',b4=some q->b5=some q'->q≠q')/\(s=2->GfQ w0.heap.size Y' A ((L (f+(indexN r+k))).getD (C (f+(indexN r+k)))) (cpg b r (indexN r+k) (C (f+(indexN r+k)))) g cp g2 cp2)
section
variable {Y:Nat->Prop} {w0:World} {F:Cf} {K N:Nat} {C:Nat->List Int} {t:Nat} {L:Nat->Option (List Int)} {Ms:List (Nat->Option (List Int))} {n:Nat} {x f r k gb:Nat} {sz lf bk zk:Int} {b ab:Bool} {s:Nat} {b4 b5:Option Nat} {q4 q5:Nat} {v4 v5:Value} {g cp g2 cp2:Nat} {A:World}
theorem GfC.cells(h:GfC Y w0 F K N C t L Ms n x f r k gb sz lf bk zk b ab)(hb:But Y w0 A):A.cell? ⟨gb,0,none⟩=some (.pointer (some ⟨x,0,none⟩))/\A.cell? ⟨gb,1,none⟩=some (.int .i64 sz)/\A.cell? ⟨gb,2,none⟩=some (.int .i64 lf)/\A.cell? ⟨gb,3,none⟩=some (.pointer (some ⟨t,0,none⟩))/\A.cell? ⟨gb,4,none⟩=some (.pointer (some ⟨F.st,0,none⟩))/\A.cell? ⟨gb,5,none⟩=some (.bool b)/\A.cell? ⟨gb,6,none⟩=some (.int .i64 (k:Int))/\A.cell? ⟨x,0,none⟩=some (.int .i64 (f:Int))/\A.cell? ⟨x,1,none⟩=some (.int .i64 (r:Int)):=by
 have gl:gb<w0.heap.size:=(Array.getElem?_eq_some_iff.1 h.gbk).1
 have hg:=(hb.block gb gl (fun q=>by have:=h.lt _ q;omega)).trans h.gbk
 have hx:=h.sp.keep (hb.block x h.sp.lt h.nx)
 exact⟨by simp[World.cell?,hg],by simp[World.cell?,hg],by simp[World.cell?,hg],by simp[World.cell?,hg],by simp[World.cell?,hg],by simp[World.cell?,hg],by simp[World.cell?,hg],hx.cell 0,hx.cell 1⟩
theorem GfS.sc(h:GfS Y w0 F K N C t L Ms n x f r k gb sz lf bk zk b ab s b4 b5 v4 v5 g cp g2 cp2 A):A.cell? ⟨gb,0,none⟩=some (.pointer (some ⟨x,0,none⟩))/\A.cell? ⟨gb,1,none⟩=some (.int .i64 sz)/\A.cell? ⟨gb,2,none⟩=some (.int .i64 lf)/\A.cell? ⟨gb,3,none⟩=some (.pointer (some ⟨t,0,none⟩))/\A.cell? ⟨gb,4,none⟩=some (.pointer (some ⟨F.st,0,none⟩))/\A.cell? ⟨gb,5,none⟩=some (.bool b)/\A.cell? ⟨gb,6,none⟩=some (.int .i64 (k:Int))/\A.cell? ⟨x,0,none⟩=some (.int .i64 (f:Int))/\A.cell? ⟨x,1,none⟩=some (.int .i64 (r:Int)):=by
 obtain⟨hc,Y',h1,h2,h3,_⟩:=h
 exact hc.cells h3
theorem GfS.box(h1:Opn Y' A F K' N C t L Ms n)(hb:But Y w0 A):Bxk w0.heap.size Y' (A.alloc (.cells #[.slice none 0 0] 65)) A.heap.size (.slice none 0 0):=⟨hb.size,fun q=>by have:=h1.lt _ q;omega,Array.getElem?_push_size⟩
theorem GfQ.below(h:GfQ B Y' A z1 z2 g cp g2 cp2)(b:Below A.heap.size A A'):GfQ B Y' A' z1 z2 g cp g2 cp2:=⟨⟨h.1.1.keep (b.block g h.1.1.lt),h.1.2⟩,⟨h.2.1.1.keep (b.block g2 h.2.1.1.lt),h.2.1.2⟩,h.2.2⟩
theorem GfS.al4(h:GfS Y w0 F K N C t L Ms n x f r k gb sz lf bk zk b ab s none b5 (.slice none 0 0) v5 g cp g2 cp2 A):GfS Y w0 F K N C t L Ms n x f r k gb sz lf bk zk b ab s (some A.heap.size) b5 (.slice none 0 0) v5 g cp g2 cp2 (A.alloc (.cells #[.slice none 0 0] 65)):=by
 obtain⟨hc,Y',h1,h2,h3,h4,h5,h6,h7⟩:=h
 have b:Below A.heap.size A (A.alloc (.cells #[.slice none 0 0] 65)):=(Below.refl _ _).alloc (Nat.le_refl _) _
 exact⟨hc,Y',h1.below b,h2,h3.comp (But.of_below b (X:=fun _=>False)) (fun _ _ q=>q.elim),fun q e=>by cases e;exact GfS.box h1 h3,fun q e=>(h5 q e).but (But.of_below b (X:=fun _=>False)) (fun q=>q),fun q q' e e'=>by cases e;have:=(h5 q' e').lt;omega,fun e=>(h7 e).below b⟩
theorem GfS.al5(h:GfS Y w0 F K N C t L Ms n x f r k gb sz lf bk zk b ab s b4 none v4 (.slice none 0 0) g cp g2 cp2 A):GfS Y w0 F K N C t L Ms n x f r k gb sz lf bk zk b ab s b4 (some A.heap.size) v4 (.slice none 0 0) g cp g2 cp2 (A.alloc (.cells #[.slice none 0 0] 65)):=by
 obtain⟨hc,Y',h1,h2,h3,h4,h5,h6,h7⟩:=h
 have b:Below A.heap.size A (A.alloc (.cells #[.slice none 0 0] 65)):=(Below.refl _ _).alloc (Nat.le_refl _) _
 exact⟨hc,Y',h1.below b,h2,h3.comp (But.of_below b (X:=fun _=>False)) (fun _ _ q=>q.elim),fun q e=>(h4 q e).but (But.of_below b (X:=fun _=>False)) (fun q=>q),fun q e=>by cases e;exact GfS.box h1 h3,fun q q' e e'=>by cases e';have:=(h4 q e).lt;omega,fun e=>(h7 e).below b⟩
theorem GfS.c88(h:GfS Y w0 F K N C t L Ms n x f r k gb sz lf bk zk b ab 0 b4 b5 v4 v5 g cp g2 cp2 A):Calls Tryz.prog 88 #[.agg #[.int .i64 (f:Int),.int .i64 (r:Int)],.int .i64 (k:Int)] A fun e A'=>e=.returned (.int .i64 (((indexN r+k):Nat):Int))/\GfS Y w0 F K N C t L Ms n x f r k gb sz lf bk zk b ab 1 b4 b5 v4 v5 g cp g2 cp2 A':=by
 obtain⟨hc,Y',h1,h2,h3,h4,h5,h6,h7⟩:=h
 refine Calls.mono (countsPage_any (f:Int) r k hc.hr hc.hk A) ?_
 rintro e A' ⟨rfl,b⟩
 exact⟨rfl,hc,Y',h1.below b,h2,h3.comp (But.of_below b (X:=fun _=>False)) (fun _ _ q=>q.elim),fun q e=>(h4 q e).but (But.of_below b (X:=fun _=>False)) (fun q=>q),fun q e=>(h5 q e).but (But.of_below b (X:=fun _=>False)) (fun q=>q),h6,fun e=>absurd e (by decide)⟩
theorem GfS.c146{g0 c0 c1:Nat}(h:GfS Y w0 F K N C t L Ms n x f r k gb sz lf bk zk b ab 1 b4 b5 v4 v5 g0 c0 g1 c1 A):Calls Tryz.prog 146 #[.agg #[.pointer (some ⟨x,0,none⟩),.int .i64 sz,.int .i64 lf,.pointer (some ⟨t,0,none⟩)],.agg #[.pointer (some ⟨F.st,0,none⟩),.bool b],.int .i64 (((indexN r+k):Nat):Int)] A fun e A'=>∃g cp g2 cp2,e=.returned (.tuple #[.slice (some ⟨g,0,none⟩) 512 cp,.slice (some ⟨g2,0,none⟩) 512 cp2,.int .i64 0])/\GfS Y w0 F K N C t L Ms n x f r k gb sz lf bk zk b ab 2 b4 b5 v4 v5 g cp g2 cp2 A':=by
 obtain⟨hc,Y',h1,h2,h3,h4,h5,h6,h7⟩:=h
 have hi:=indexN_le hc.hr
 have hx:=hc.sp.keep (h3.block x hc.sp.lt hc.nx)
 have s3:=h3.size
 refine Calls.mono (Opn.both h1 (by have:=hc.hK;simp;omega) hx (fun q=>hc.nx (h2 x hc.sp.lt q)) sz lf b (indexN r+k) hc.hr (by have:=hc.hk;omega) hc.f1 hc.f2 hc.pg) ?_
 rintro e A' ⟨g,cp,g2,cp2,Y2,rfl,m1,m2,m3,m4,m5,m6⟩
 refine⟨g,cp,g2,cp2,rfl,hc,Y2,m1,h2.trans m5 s3,h3.comp m6 h2,fun q e=>(h4 q e).keep m6 m5,fun q e=>(h5 q e).keep m6 m5,h6,fun _=>⟨⟨m3.1,m3.2.1,m3.2.2,by omega⟩,⟨m4.1,m4.2.1,m4.2.2,by omega⟩,m2.2.2⟩⟩
end
open Go.RowKit Go.Deep
theorem Opn.formatC(h:Opn Y w F K N C t L Ms n)(hK:K<4611686018427387904)(f:Nat)(r c:Int)(h1:64<=f)(h2:f<F.nb)(hbad:¬(1<=r/\r<=262144)\/c<1\/r<c) :
  Calls Tryz.prog 18 #[.pointer (some ⟨t,0,none⟩),.int .i64 (f:Int),.int .i64 r,.int .i64 c] w fun e w'=>∃Y',e=.returned (.int .i64 60)/\Opn Y' w' F (K+1) N C t L Ms n/\Gr Y Y' w/\But Y w w':=by
 refine poz fun PO hPO=>?_
 have HR:Hid (Calls Tryz.prog 47 #[.pointer (some ⟨t,0,none⟩),.int .i64 (f:Int)] w fun e w'=>∃g cp,e=.returned (.tuple #[.slice (some ⟨g,0,none⟩) 512 cp,.int .i64 0])/\PO (.returned (.int .i64 60)) w'):=by
  refine Calls.mono (h.read hK f h1 h2) ?_
  rintro e w' ⟨g,cp,Y',rfl,r1,r2,r3,r4,r5,r6,r7⟩
  rw[hPO]
  exact⟨g,cp,rfl,Y',rfl,r1,r6,r7⟩
 clear hPO h
 go_enter Tryz.func18,Tryz.ntmps18
 go_wp2_with fail
 refine Calls.mono HR.out ?_
 rintro e w1 ⟨g,cp,rfl,q⟩
 have FIN:=hid q
 clear q HR
 go_wp2_with fail
 refine Calls.mono (isRoom_any r w1) ?_
 rintro e w9 ⟨rfl,hw9⟩
 rw[hw9]
 clear hw9
 by_cases ha:1<=r/\r<=262144
 ·have hd:decide (1<=r/\r<=262144)=true:=decide_eq_true ha
  rw[hd]
  by_cases hb:c<1
  ·go_wp2
   exact FIN.out
  ·have hb2:r<c:=by omega
   go_wp2
   exact FIN.out
 ·have hd:decide (1<=r/\r<=262144)=false:=decide_eq_false ha
  rw[hd]
  go_wp2
  exact FIN.out
theorem Opn.format(h:Opn Y w F K N C t L Ms n)(f r c:Nat)(h1:64<=f)(h2:f+pagesN r<=F.nb)(h3:1<=r)(h4:r<=262144)(h5:1<=c)(h6:c<=r)(hK:K+1+pagesN r+pagesN r<4611686018427387904)(hn:n+2 * pagesN r<=1073741823) :
  Calls Tryz.prog 18 #[.pointer (some ⟨t,0,none⟩),.int .i64 (f:Int),.int .i64 (r:Int),.int .i64 (c:Int)] w fun e w'=>∃Y',e=.returned (.int .i64 0)/\Opn Y' w' F (K+1+pagesN r+pagesN r) N C t (layL L f r c 0 (pagesN r)) Ms (n+2 * pagesN r)/\Gr Y Y' w/\But Y w w':=by
 refine poz fun PO hPO=>?_
 have hlo:=pagesN_lo h3
 have HR:Hid (Calls Tryz.prog 47 #[.pointer (some ⟨t,0,none⟩),.int .i64 (f:Int)] w fun e w'=>∃g cp,e=.returned (.tuple #[.slice (some ⟨g,0,none⟩) 512 cp,.int .i64 0])/\∀w0,w0=w'.alloc (.cells #[.int .i64 (f:Int),.int .i64 (r:Int)] 92)->(Calls Tryz.prog 48 #[.agg #[.int .i64 (f:Int),.int .i64 (r:Int)],.pointer (some ⟨t,0,none⟩)] w0 fun e w2=>e=.returned (.int .i64 0)/\(w2.cell? ⟨w'.heap.size,0,none⟩=some (.int .i64 (f:Int))/\w2.cell? ⟨w'.heap.size,1,none⟩=some (.int .i64 (r:Int)))/\(Calls Tryz.prog 49 #[.agg #[.int .i64 (f:Int),.int .i64 (r:Int)],.pointer (some ⟨t,0,none⟩),.agg #[.int .i64 (c:Int),.int .i64 0]] w2 fun e w3=>e=.returned (.int .i64 0)/\PO (.returned (.int .i64 0)) w3))):=by
  refine Calls.mono (h.read (by omega) f h1 (by omega)) ?_
  rintro e w' ⟨g,cp,Y',rfl,r1,r2,r3,r4,r5,r6,r7⟩
  refine⟨g,cp,rfl,fun w0 hw0=>?_⟩
  have z0:w0.heap.size=w'.heap.size+1:=by rw[hw0];simp
  have b0:Below w'.heap.size w' w0:=by rw[hw0];exact (Below.refl _ _).alloc (Nat.le_refl _) _
  have hblk:w0.heap[w'.heap.size]?=some (.cells #[.int .i64 (f:Int),.int .i64 (r:Int)] 92 (0,0)):=by rw[hw0];exact Array.getElem?_push_size
  have hlt:=r1.lt
  refine Calls.mono ((r1.below b0).checkPages f r h4 (by omega) h1 h2) ?_
  rintro e w2 ⟨Y2,rfl,k1,k2,k3⟩
  have hb2:=(k3.block w'.heap.size (by omega) (fun q=>by have:=hlt _ q;omega)).trans hblk
  refine⟨rfl,⟨by simp[World.cell?,hb2],by simp[World.cell?,hb2]⟩,?_⟩
  refine Calls.mono (k1.lay f r c 0 h4 (by omega) (by decide) (by omega) hn h1 h2) ?_
  rintro e w3 ⟨Y3,rfl,m1,m2,m3⟩
  refine⟨rfl,?_⟩
  rw[hPO]
  have s1:=r7.size
  have s3:=k3.size
  have g1:Gr Y Y2 w:=r6.trans (w':=w') (fun k hk q=>k2 k (by omega) q) s1
  have bb1:But Y w w0:=r7.comp (But.of_below b0 (X:=fun _=>False)) (fun _ _ q=>q.elim)
  have bb2:But Y w w2:=bb1.comp k3 r6
  exact⟨Y3,rfl,m1,g1.trans m2 (by omega),bb2.comp m3 g1⟩
 have hd:decide (1<=(r:Int)/\(r:Int)<=262144)=true:=decide_eq_true (by omega)
 have hc1:¬(c:Int)<1:=by omega
 have hc2:¬(r:Int)<(c:Int):=by omega
 clear hPO h hlo
 go_enter Tryz.func18,Tryz.ntmps18
 go_wp2_with fail
 refine Calls.mono HR.out ?_
 rintro e w1 ⟨g,cp,rfl,q⟩
 have H1:=hid q
 clear q HR
 go_wp2_with fail
 refine Calls.mono (isRoom_any (r:Int) w1) ?_
 rintro e w9 ⟨rfl,hw9⟩
 rw[hw9,hd]
 clear hw9 hd
 go_wp2_with fail
 obtain⟨w2,hw2⟩:∃w2,w2=w1.alloc (.cells #[.int .i64 (f:Int),.int .i64 (r:Int)] 92):=⟨_,rfl⟩
 rw[<- hw2]
 have H2:=hid (H1.out w2 hw2)
 clear H1 hw2
 refine Calls.mono H2.out ?_
 rintro e w3 ⟨rfl,⟨d0,d1⟩,q⟩
 have H3:=hid q
 clear q H2
 go_wp2_with fail
 refine Calls.mono H3.out ?_
 rintro e w4 ⟨rfl,q⟩
 have FIN:=hid q
 clear q H3 d0 d1
 go_wp2
 exact FIN.out
def SoP (Y:Nat->Prop) (w:World) (f:Nat) (r:Int) (st:Nat) (X:(Nat->Prop)->World->Prop) (e:Ending) (w':World):Prop :=
 ∃Y',X Y' w'/\(1<=r/\r<=262144->∃x,e=.returned (.tuple #[.pointer (some ⟨x,0,none⟩),.int .i64 0])/\w.heap.size<=x/\Spb w' x f r.toNat st/\¬Y' x)/\(¬(1<=r/\r<=262144)->e=.returned (.tuple #[.pointer none,.int .i64 60]))/\Gr Y Y' w/\But Y w w'
theorem SOpen_any(X:(Nat->Prop)->World->Prop)(hX:∀Y' w1 w2,Below w1.heap.size w1 w2->X Y' w1->X Y' w2)(hL:∀Y' w1,X Y' w1->∀k,Y' k->k<w1.heap.size)(HR:Calls Tryz.prog 30 #[.pointer (some ⟨st,0,none⟩),.int .i64 (f:Int)] w fun e w'=>∃g cp Y',e=.returned (.tuple #[.slice (some ⟨g,0,none⟩) 512 cp,.int .i64 0])/\X Y' w'/\Gr Y Y' w/\But Y w w')(r:Int) :
  Calls Tryz.prog 17 #[.pointer (some ⟨st,0,none⟩),.int .i64 (f:Int),.int .i64 r] w (SoP Y w f r st X):=by
 refine poz fun PO hPO=>?_
 have H:Hid (Calls Tryz.prog 30 #[.pointer (some ⟨st,0,none⟩),.int .i64 (f:Int)] w fun e w'=>∃g cp,e=.returned (.tuple #[.slice (some ⟨g,0,none⟩) 512 cp,.int .i64 0])/\(1<=r/\r<=262144->PO (.returned (.tuple #[.pointer (some ⟨w'.heap.size,0,none⟩),.int .i64 0])) (w'.alloc (.cells #[.int .i64 (f:Int),.int .i64 r,.pointer (some ⟨st,0,none⟩)] 95)))/\(¬(1<=r/\r<=262144)->PO (.returned (.tuple #[.pointer none,.int .i64 60])) w')):=by
  refine Calls.mono HR ?_
  rintro e w' ⟨g,cp,Y',rfl,r1,r2,r3⟩
  have s1:=r3.size
  have hlt:=hL Y' w' r1
  have b0:Below w'.heap.size w' (w'.alloc (.cells #[.int .i64 (f:Int),.int .i64 r,.pointer (some ⟨st,0,none⟩)] 95)):=(Below.refl _ _).alloc (Nat.le_refl _) _
  refine⟨g,cp,rfl,fun hr=>?_,fun hr=>?_⟩
  ·rw[hPO]
   refine⟨Y',hX _ _ _ b0 r1,fun _=>⟨w'.heap.size,rfl,s1,?_,fun q=>by have:=hlt _ q;omega⟩,fun q=>absurd hr q,r2,r3.comp (But.of_below b0 (X:=fun _=>False)) (fun _ _ q=>q.elim)⟩
   unfold Spb
   rw[show ((r.toNat:Nat):Int)=r by omega]
   exact Array.getElem?_push_size
  ·rw[hPO]
   exact⟨Y',r1,fun q=>absurd q hr,fun _=>rfl,r2,r3⟩
 clear hPO HR hX hL
 go_enter Tryz.func17,Tryz.ntmps17
 go_wp2_with fail
 refine Calls.mono H.out ?_
 rintro e w1 ⟨g,cp,rfl,q1,q2⟩
 have F1:=hid q1
 have F2:=hid q2
 clear q1 q2 H
 go_wp2_with fail
 refine Calls.mono (isRoom_any r w1) ?_
 rintro e w9 ⟨rfl,hw9⟩
 rw[hw9]
 clear hw9
 by_cases ha:1<=r/\r<=262144
 ·have hd:decide (1<=r/\r<=262144)=true:=decide_eq_true ha
  have FIN:=hid (F1.out ha)
  rw[hd]
  clear F1 F2 ha hd
  go_wp2
  exact FIN.out
 ·have hd:decide (1<=r/\r<=262144)=false:=decide_eq_false ha
  have FIN:=hid (F2.out ha)
  rw[hd]
  clear F1 F2 ha hd
  go_wp2
  exact FIN.out
open Go.RowKit
theorem lblocks_any(h1:1<=r)(h2:r<=262144)(w:World):Calls Tryz.prog 21 #[.int .i64 (r:Int)] w fun e w'=>e=.returned (.int .i64 (pagesN r:Int))/\Below w.heap.size w w':=by
 have HB:=hid (SBlocks_any (r:Int) w)
 have e1:blkN (r:Int)=((pagesN r:Int),0):=by unfold blkN;rw[if_pos (by omega)];rfl
 rw[e1]at HB
 have a1:=pagesN_lo h1
 have a2:=pagesN_hi h1
 have a3:((r:Int).tdiv 256)=((r / 256:Nat):Int):=by rw[Int.tdiv_eq_ediv_of_nonneg (by omega)];omega
 have a4:¬(pagesN r:Int)<1:=by omega
 have a5:¬((r / 256:Nat):Int)+2<(pagesN r:Int):=by omega
 clear e1
 generalize pagesN r=P at *
 go_enter Tryz.func21,Tryz.ntmps21
 go_wp2_with fail
 refine Calls.mono HB.out ?_
 rintro e w1 ⟨rfl,b1⟩
 have B1:=hid b1
 clear b1 HB
 go_wp2_with fail
 refine Calls.mono (num_any 0 w1) ?_
 rintro e w9 ⟨rfl,hw9⟩
 rw[hw9]
 clear hw9
 go_wp2
 go_ret
 exact⟨rfl,B1.out⟩
end Go.Proofs.YtlefjidbpjkhlaaGreat
