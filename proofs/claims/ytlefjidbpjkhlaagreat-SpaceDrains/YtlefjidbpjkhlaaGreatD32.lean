import Derived.Test.YtlefjidbpjkhlaaGreatD31
import Derived.Test.YtlefjidbpjkhlaaGreatD11
import Derived.Deep.DeepCutAuto
set_option maxRecDepth 100000
set_option maxHeartbeats 16000000
namespace Go.Proofs.YtlefjidbpjkhlaaGreat
variable {C:Nat->List Int}
variable {B K K' N cp f i m n q r st t x:Nat}
variable {X Y Y':Nat->Prop}
variable {A A' w:World}
variable {F:Cf}
variable {L:Nat->Option (List Int)}
variable {Ms:List (Nat->Option (List Int))}
variable {lf:Int}
variable {PO:Ending->World->Prop}
variable {v:Value}
variable {z1 z2 zs:List Int}
open Go.RowKit Go.Deep
def whl (C:Nat->List Int) (f r:Nat):Bool:=(List.range (pagesN r)).all (fun i=>isPg r i (C (f+i)))
theorem whl_no(hi:i<pagesN r)(h:isPg r i (C (f+i))=false):whl C f r=false:=by
 unfold whl
 rw[List.all_eq_false]
 exact⟨i,List.mem_range.2 hi,by rw[h];decide⟩
theorem whl_yes(h:∀i,i<pagesN r->isPg r i (C (f+i))=true):whl C f r=true:=by
 unfold whl
 rw[List.all_eq_true]
 exact fun i hi=>h i (List.mem_range.1 hi)
theorem Opn.isWhole(h:Opn Y w F K N C t L Ms n)(hx:Spb w x f r F.st)(hY:¬Y x)(sz lf:Int)(hr:r<=262144)(hK:K+pagesN r<4611686018427387904)(h1:64<=f)(h2:f+pagesN r<=F.nb) :
  Calls Tryz.prog 184 #[.agg #[.pointer (some ⟨x,0,none⟩),.int .i64 sz,.int .i64 lf,.pointer (some ⟨t,0,none⟩)]] w fun e w'=>∃K' Y',e=.returned (.tuple #[.bool (whl C f r),.int .i64 0])/\K'<=K+pagesN r/\Opn Y' w' F K' N C t L Ms n/\Gr Y Y' w/\But Y w w':=by
 obtain⟨PO,hPO⟩:∃PO:Ending->World->Prop,PO=fun e w'=>∃K' Y',e=.returned (.tuple #[.bool (whl C f r),.int .i64 0])/\K'<=K+pagesN r/\Opn Y' w' F K' N C t L Ms n/\Gr Y Y' w/\But Y w w':=⟨_,rfl⟩
 rw[<- hPO]
 obtain⟨w0,hw0⟩:∃w0,w0=w.alloc (.cells #[.pointer (some ⟨x,0,none⟩),.int .i64 sz,.int .i64 lf,.pointer (some ⟨t,0,none⟩)] 103):=⟨_,rfl⟩
 obtain⟨vb,hvb⟩:∃vb,vb=w.heap.size:=⟨_,rfl⟩
 have z0:w0.heap.size=w.heap.size+1:=by rw[hw0];simp
 have b0:Below w.heap.size w w0:=by rw[hw0];exact (Below.refl _ _).alloc (Nat.le_refl _) _
 have hblk:w0.heap[vb]?=some (.cells #[.pointer (some ⟨x,0,none⟩),.int .i64 sz,.int .i64 lf,.pointer (some ⟨t,0,none⟩)] 103 (0,0)):=by rw[hw0,hvb];exact Array.getElem?_push_size
 have hlt:=h.lt
 have hnb:=h.nb
 have hpg:=pagesN_le hr
 have hx0:Spb w0 x f r F.st:=hx.keep (b0.block x hx.lt)
 have HC:Hid (∀wr,But Y w0 wr->wr.cell? ⟨vb,0,none⟩=some (.pointer (some ⟨x,0,none⟩))/\wr.cell? ⟨x,2,none⟩=some (.pointer (some ⟨F.st,0,none⟩))/\wr.cell? ⟨x,0,none⟩=some (.int .i64 (f:Int))/\wr.cell? ⟨x,1,none⟩=some (.int .i64 (r:Int))):=fun wr b=>by
  have hb2:=(b.block vb (by omega) (fun q=>by have:=hlt _ q;omega)).trans hblk
  have hx2:=hx0.keep (b.block x hx0.lt hY)
  exact⟨by simp[World.cell?,hb2],hx2.cell 2,hx2.cell 0,hx2.cell 1⟩
 have FIN:Hid (∀q wr Y' bb,bb=whl C f r->q<=pagesN r->Opn Y' wr F (K+q) N C t L Ms n->Gr Y Y' w0->But Y w0 wr->PO (.returned (.tuple #[.bool bb,.int .i64 0])) wr):=fun q wr Y' bb e hq q1 q2 q3=>by
  rw[hPO,e]
  exact⟨K+q,Y',rfl,by omega,q1,fun k hk q=>q2 k (by omega) q,(But.of_below b0 (X:=Y)).trans q3⟩
 have HS:Hid (Opn Y w0 F (K+0) N C t L Ms n):=h.below b0
 have HP:=hid (pages_any (f:Int) r hr w0)
 have HNO:Hid (∀q,q<pagesN r->isPg r q (C (f+q))=false->false=whl C f r):=fun q a b=>(whl_no a b).symm
 have HYES:Hid ((∀i,i<pagesN r->isPg r i (C (f+i))=true)->true=whl C f r):=fun q=>(whl_yes q).symm
 obtain⟨k0,k1,k2,k3⟩:=HC.out w0 (But.refl _ _)
 have HW:=hid hw0
 have HV:=hid hvb
 rw[hw0]at k0 k1 k2 k3
 rw[hvb]at k0
 generalize pagesN r=PN at *
 generalize whl C f r=WH at *
 clear hw0 b0 hblk hPO h hlt z0 hx hx0 hvb
 go_enter Tryz.func184,Tryz.ntmps184
 go_wp2_with fail
 rw[<- HW.out,<- HV.out]
 refine Calls.mono HP.out ?_
 rintro e w1 ⟨rfl,b1⟩
 have B1:=hid b1
 have HS1:=hid (HS.out.below b1)
 clear b1 HP HS k0 k1 k2 k3 HW
 go_wp2_with fail
 go_loopw [13] (fun iv wr=>∃q:Nat,q<=PN/\iv=.int .i64 (q:Int)/\(∀i,i<q->isPg r i (C (f+i))=true)/\(∃Y',Opn Y' wr F (K+q) N C t L Ms n/\Gr Y Y' w0)/\But Y w0 wr) (fun iv _=>PN-(intOf iv).toNat)
 case atStart=>exact⟨0,Nat.zero_le _,rfl,fun i hi=>absurd hi (by omega),⟨Y,HS1.out,Gr.refl _ _⟩,But.of_below B1.out⟩
 case round=>
  clear HS1 B1
  rename World=>wo
  obtain⟨q,hq,rfl,hall,⟨Y',hS,hG⟩,hB⟩:=hrel
  by_cases hqn:q<PN
  ·have hqn':(q:Int)<(PN:Int):=by omega
   have hd:But Y w0 wo.drew:=hB.drew
   have HR:Hid (Calls Tryz.prog 30 #[.pointer (some ⟨F.st,0,none⟩),.int .i64 ((f:Int)+(q:Int))] wo.drew fun e w'=>∃g cp,e=.returned (.tuple #[.slice (some ⟨g,0,none⟩) 512 cp,.int .i64 0])/\(w'.cell? ⟨vb,0,none⟩=some (.pointer (some ⟨x,0,none⟩))/\w'.cell? ⟨x,2,none⟩=some (.pointer (some ⟨F.st,0,none⟩))/\w'.cell? ⟨x,0,none⟩=some (.int .i64 (f:Int))/\w'.cell? ⟨x,1,none⟩=some (.int .i64 (r:Int)))/\Calls Tryz.prog 140 #[.agg #[.int .i64 (f:Int),.int .i64 (r:Int)],.slice (some ⟨g,0,none⟩) 512 cp,.int .i64 (q:Int)] w' fun e w2=>e=.returned (.bool (isPg r q (C (f+q))))/\(∃Y',Opn Y' w2 F (K+(q+1)) N C t L Ms n/\Gr Y Y' w0)/\But Y w0 w2):=by
    rw[show ((f:Int)+(q:Int))=((f+q:Nat):Int) by omega]
    refine Calls.mono ((hS.below (Below.drew1 wo)).sread (by omega) (f+q) (by omega) (by omega)) ?_
    rintro e w2 ⟨g,cp,Y2,rfl,r1,r2,r3,r4,r5,r6,r7⟩
    have hs:=hB.size
    have hB2:But Y w0 w2:=hd.comp r7 hG
    refine⟨g,cp,rfl,HC.out w2 hB2,Calls.mono (isPage_any (f:Int) hr (by omega) r3 r4) ?_⟩
    rintro e w3 ⟨rfl,b3⟩
    exact⟨rfl,⟨Y2,r1.below b3,hG.trans r6 hs⟩,hB2.comp (But.of_below b3 (X:=fun _=>False)) (fun _ _ q=>q.elim)⟩
   have kS:=HC.out wo.drew hd
   have HALL:=hid hall
   have hwr:IntKind.i64.wrap ((f:Int)+(q:Int))=(f:Int)+(q:Int):=by rw[IntKind.wrap_i64];omega
   clear hS hG hB hall hd
   go_wp2_with fail
   refine Gz (S:=fun w'=>w'.cell? ⟨vb,0,none⟩=some (.pointer (some ⟨x,0,none⟩))/\w'.cell? ⟨x,2,none⟩=some (.pointer (some ⟨F.st,0,none⟩))/\w'.cell? ⟨x,0,none⟩=some (.int .i64 (f:Int))/\w'.cell? ⟨x,1,none⟩=some (.int .i64 (r:Int))) kS (fun hSS=>?_)
   refine Ti 0 rfl ?_
   refine Ti 1 rfl ?_
   refine Ti 2 rfl ?_
   refine Ti 3 rfl ?_
   try simp only[Act.put,zA,zB,zC]
   refine Ti 4 rfl ?_
   refine Ti 5 rfl ?_
   refine Ti 6 rfl ?_
   refine Ti 7 rfl ?_
   try simp only[Act.put,zA,zB,zC]
   refine Ti 8 rfl ?_
   refine Ti 9 rfl ?_
   refine Ti 10 rfl ?_
   refine Ti 11 rfl ?_
   try simp only[Act.put,zA,zB,zC]
   refine Ti 12 rfl ?_
   try simp only[Act.put,zA,zB,zC]
   refine Ri 13 rfl (fun K9 hK9=>?_)
   go_simp
   go_at_call 30
   refine Calls.mono HR.out ?_
   rintro e w2 ⟨g,cp,rfl,hk2,h3⟩
   have H3:=hid h3
   clear h3 HR
   refine hK9.out _ _ hk2 (fun hSS=>?_)
   try simp only[Act.put,zA,zB,zC]
   refine Ti 14 rfl ?_
   refine Ti 15 rfl ?_
   refine Ti 16 rfl ?_
   refine Ti 17 rfl ?_
   try simp only[Act.put,zA,zB,zC]
   refine Ti 18 rfl ?_
   try simp only[Act.put,zA,zB,zC]
   refine Dn ?_
   clear hSS kS
   obtain⟨c0,c1,c2,c3⟩:=hk2
   go_wp2_with fail
   refine Calls.mono H3.out ?_
   rintro e w3 ⟨rfl,⟨Y3,q1,q2⟩,q3⟩
   have N1:=hid q1
   have N2:=hid q2
   have N3:=hid q3
   clear q1 q2 q3 H3 c0 c1 c2 c3
   have HN1:=hid (HNO.out q hqn)
   have HA2:Hid (isPg r q (C (f+q))=true->∀i,i<q+1->isPg r i (C (f+i))=true):=fun e i hi=>by
    rcases Nat.lt_or_ge i q with a | a
    ·exact HALL.out i a
    ·obtain rfl:i=q:=by omega
     exact e
   generalize isPg r q (C (f+q))=bq at *
   cases bq with
   | true=>
    have HA3:=hid (HA2.out rfl)
    clear HA2 HN1
    go_wp2_with fail
    go_roundw
    case rel=>exact⟨q+1,by omega,by go_num,HA3.out,⟨Y3,N1.out,N2.out⟩,N3.out⟩
    case measure=>simp[intOf];omega
   | false=>
    have FN:=hid (FIN.out (q+1) w3 Y3 false (HN1.out rfl) (by omega) N1.out N2.out N3.out)
    clear HA2 HN1 N1 N2 N3 FIN HALL
    go_wp2
    exact FN.out
  ·have hqn':¬(q:Int)<(PN:Int):=by omega
   have hqe:q=PN:=by omega
   subst hqe
   have FN:=hid (FIN.out q wo Y' true (HYES.out hall) (Nat.le_refl _) hS hG hB)
   clear hS hG hB FIN HC hall HNO HYES
   go_wp2
   exact FN.out
open Go.RowKit Go.Deep
theorem fld99(a b:Int)(w:World):Sem.run Tryz.prog (Instr.field 99 (.agg #[.int .i64 a,.int .i64 b]) 1) w=.ok (.int .i64 b) w:=by kernel_rfl
def Rb2 (w:World) (g:Nat):Prop:=w.heap[g]?=some (.cells #[.pointer none,.bool false] 164 (0,0))
theorem Rb2.cell{g:Nat}(h:Rb2 w g)(i:Nat):w.cell? ⟨g,i,none⟩=#[.pointer none,.bool false][i]?:=by
 unfold Rb2 at h
 simp[World.cell?,h]
theorem Rb2.frozen{g:Nat}(h:Rb2 w g)(i:Nat):w.frozen? ⟨g,i,none⟩=false:=by
 unfold Rb2 at h
 simp[World.frozen?,h]
theorem Rb2.set{g:Nat}(h:Rb2 w g)(a b:Value):((w.setCell ⟨g,0,none⟩ a).setCell ⟨g,1,none⟩ b).heap[g]?=some (.cells #[a,b] 164 (0,0)):=by
 unfold Rb2 at h
 simp only[World.setCell,Array.getElem?_modify]
 simp[h]
def BgC (w:World) (x f r st t:Nat) (sz lf:Int) (PO:Ending->World->Prop):Prop :=
 ∀w0,w0=((w.alloc (.cells #[.pointer (some ⟨x,0,none⟩),.int .i64 sz,.int .i64 lf,.pointer (some ⟨t,0,none⟩)] 103)).alloc (.cells #[.pointer none,.bool false] 164)).drew->(w0.cell? ⟨w.heap.size,0,none⟩=some (.pointer (some ⟨x,0,none⟩))/\w0.cell? ⟨w.heap.size,1,none⟩=some (.int .i64 sz)/\w0.cell? ⟨w.heap.size,2,none⟩=some (.int .i64 lf)/\w0.cell? ⟨w.heap.size,3,none⟩=some (.pointer (some ⟨t,0,none⟩))/\w0.cell? ⟨x,2,none⟩=some (.pointer (some ⟨st,0,none⟩))/\w0.cell? ⟨x,0,none⟩=some (.int .i64 (f:Int))/\w0.cell? ⟨x,1,none⟩=some (.int .i64 (r:Int)))/\Calls Tryz.prog 30 #[.pointer (some ⟨st,0,none⟩),.int .i64 (f:Int)] w0 fun e w1=>∃g cp,e=.returned (.tuple #[.slice (some ⟨g,0,none⟩) 512 cp,.int .i64 0])/\(w1.cell? ⟨w.heap.size,0,none⟩=some (.pointer (some ⟨x,0,none⟩))/\w1.cell? ⟨w.heap.size,1,none⟩=some (.int .i64 sz)/\w1.cell? ⟨w.heap.size,2,none⟩=some (.int .i64 lf)/\w1.cell? ⟨w.heap.size,3,none⟩=some (.pointer (some ⟨t,0,none⟩))/\w1.cell? ⟨x,2,none⟩=some (.pointer (some ⟨st,0,none⟩))/\w1.cell? ⟨x,0,none⟩=some (.int .i64 (f:Int))/\w1.cell? ⟨x,1,none⟩=some (.int .i64 (r:Int)))/\Calls Tryz.prog 140 #[.agg #[.int .i64 (f:Int),.int .i64 (r:Int)],.slice (some ⟨g,0,none⟩) 512 cp,.int .i64 0] w1 fun e w2=>∃b1,e=.returned (.bool b1)/\(w2.cell? ⟨w.heap.size,0,none⟩=some (.pointer (some ⟨x,0,none⟩))/\w2.cell? ⟨w.heap.size,1,none⟩=some (.int .i64 sz)/\w2.cell? ⟨w.heap.size,2,none⟩=some (.int .i64 lf)/\w2.cell? ⟨w.heap.size,3,none⟩=some (.pointer (some ⟨t,0,none⟩))/\w2.cell? ⟨x,2,none⟩=some (.pointer (some ⟨st,0,none⟩))/\w2.cell? ⟨x,0,none⟩=some (.int .i64 (f:Int))/\w2.cell? ⟨x,1,none⟩=some (.int .i64 (r:Int)))/\Rb2 w2 (w.heap.size+1)/\(b1=false->PO (.returned (.tuple #[.agg #[.pointer (some ⟨st,0,none⟩),.bool false],.int .i64 0])) ((w2.setCell ⟨w.heap.size+1,0,none⟩ (.pointer (some ⟨st,0,none⟩))).setCell ⟨w.heap.size+1,1,none⟩ (.bool false)))/\(b1=true->Calls Tryz.prog 94 #[.slice (some ⟨g,0,none⟩) 512 cp] w2 fun e w3=>∃sz' lf':Int,e=.returned (.agg #[.int .i64 sz',.int .i64 lf'])/\(w3.cell? ⟨w.heap.size,0,none⟩=some (.pointer (some ⟨x,0,none⟩))/\w3.cell? ⟨w.heap.size,1,none⟩=some (.int .i64 sz)/\w3.cell? ⟨w.heap.size,2,none⟩=some (.int .i64 lf)/\w3.cell? ⟨w.heap.size,3,none⟩=some (.pointer (some ⟨t,0,none⟩))/\w3.cell? ⟨x,2,none⟩=some (.pointer (some ⟨st,0,none⟩))/\w3.cell? ⟨x,0,none⟩=some (.int .i64 (f:Int))/\w3.cell? ⟨x,1,none⟩=some (.int .i64 (r:Int)))/\Rb2 w3 (w.heap.size+1)/\(lf'=0->PO (.returned (.tuple #[.agg #[.pointer (some ⟨st,0,none⟩),.bool false],.int .i64 0])) ((w3.setCell ⟨w.heap.size+1,0,none⟩ (.pointer (some ⟨st,0,none⟩))).setCell ⟨w.heap.size+1,1,none⟩ (.bool false)))/\(lf'≠0->lf'=lf->PO (.returned (.tuple #[.agg #[.pointer (some ⟨st,0,none⟩),.bool true],.int .i64 0])) ((w3.setCell ⟨w.heap.size+1,0,none⟩ (.pointer (some ⟨st,0,none⟩))).setCell ⟨w.heap.size+1,1,none⟩ (.bool true)))/\(lf'≠0->lf'≠lf->Calls Tryz.prog 184 #[.agg #[.pointer (some ⟨x,0,none⟩),.int .i64 sz,.int .i64 lf,.pointer (some ⟨t,0,none⟩)]] w3 fun e w4=>∃b2,e=.returned (.tuple #[.bool b2,.int .i64 0])/\(w4.cell? ⟨w.heap.size,0,none⟩=some (.pointer (some ⟨x,0,none⟩))/\w4.cell? ⟨w.heap.size,1,none⟩=some (.int .i64 sz)/\w4.cell? ⟨w.heap.size,2,none⟩=some (.int .i64 lf)/\w4.cell? ⟨w.heap.size,3,none⟩=some (.pointer (some ⟨t,0,none⟩))/\w4.cell? ⟨x,2,none⟩=some (.pointer (some ⟨st,0,none⟩))/\w4.cell? ⟨x,0,none⟩=some (.int .i64 (f:Int))/\w4.cell? ⟨x,1,none⟩=some (.int .i64 (r:Int)))/\Rb2 w4 (w.heap.size+1)/\PO (.returned (.tuple #[.agg #[.pointer (some ⟨st,0,none⟩),.bool b2],.int .i64 0])) ((w4.setCell ⟨w.heap.size+1,0,none⟩ (.pointer (some ⟨st,0,none⟩))).setCell ⟨w.heap.size+1,1,none⟩ (.bool b2))))
theorem begun_walk{sz:Int}(H:BgC w x f r st t sz lf PO):Calls Tryz.prog 145 #[.agg #[.pointer (some ⟨x,0,none⟩),.int .i64 sz,.int .i64 lf,.pointer (some ⟨t,0,none⟩)]] w PO:=by
 obtain⟨w0,hw0⟩:∃w0,w0=((w.alloc (.cells #[.pointer (some ⟨x,0,none⟩),.int .i64 sz,.int .i64 lf,.pointer (some ⟨t,0,none⟩)] 103)).alloc (.cells #[.pointer none,.bool false] 164)).drew:=⟨_,rfl⟩
 obtain⟨kS,h1⟩:=H w0 hw0
 have H1:=hid h1
 have HW:=hid hw0
 rw[hw0]at kS
 clear H h1 hw0
 go_enter Tryz.func145,Tryz.ntmps145
 go_wp2_with fail
 refine Gz (S:=fun w'=>w'.cell? ⟨w.heap.size,0,none⟩=some (.pointer (some ⟨x,0,none⟩))/\w'.cell? ⟨w.heap.size,1,none⟩=some (.int .i64 sz)/\w'.cell? ⟨w.heap.size,2,none⟩=some (.int .i64 lf)/\w'.cell? ⟨w.heap.size,3,none⟩=some (.pointer (some ⟨t,0,none⟩))/\w'.cell? ⟨x,2,none⟩=some (.pointer (some ⟨st,0,none⟩))/\w'.cell? ⟨x,0,none⟩=some (.int .i64 (f:Int))/\w'.cell? ⟨x,1,none⟩=some (.int .i64 (r:Int))) kS (fun hSS=>?_)
 refine Ti 0 rfl ?_
 refine Ti 1 rfl ?_
 refine Ti 2 rfl ?_
 refine Ti 3 rfl ?_
 try simp only[Act.put,zA,zB,zC]
 refine Ti 4 rfl ?_
 refine Ti 5 rfl ?_
 refine Ti 6 rfl ?_
 refine Ti 7 rfl ?_
 try simp only[Act.put,zA,zB,zC]
 refine Ti 8 rfl ?_
 refine Ti 9 rfl ?_
 refine Ti 10 rfl ?_
 try simp only[Act.put,zA,zB,zC]
 refine Ri 11 rfl (fun K9 hK9=>?_)
 go_simp
 go_at_call 30
 rw[<- HW.out]
 refine Calls.mono H1.out ?_
 rintro e w1 ⟨g,cp,rfl,hk1,h2⟩
 have H2:=hid h2
 clear h2 H1 HW
 refine hK9.out _ _ hk1 (fun hSS=>?_)
 try simp only[Act.put,zA,zB,zC]
 refine Ti 12 rfl ?_
 refine Ti 13 rfl ?_
 try simp only[Act.put,zA,zB,zC]
 refine Ti 14 rfl ?_
 refine Ti 15 rfl ?_
 refine Ti 16 rfl ?_
 try simp only[Act.put,zA,zB,zC]
 refine Dn ?_
 clear hSS kS
 obtain⟨a0,a1,a2,a3,a4,a5,a6⟩:=hk1
 go_wp2_with fail
 refine Calls.mono H2.out ?_
 rintro e w2 ⟨b1,rfl,⟨c0,c1,c2,c3,c4,c5,c6⟩,hrb,hf,ht⟩
 have RBH:=hid hrb
 clear hrb H2 a0 a1 a2 a3 a4 a5 a6
 cases b1 with
 | false=>
  have FIN:=hid (hf rfl)
  clear hf ht
  have e0:=RBH.out.cell 0
  have e1:=RBH.out.cell 1
  have g0:=RBH.out.frozen 0
  have g1:=RBH.out.frozen 1
  simp only[List.getElem?_toArray,List.getElem?_cons_zero,List.getElem?_cons_succ]at e0 e1
  go_wp2
  (try simp only[Exit.inBlock,Exit.then])
  exact bodyPost_ret (results_row_tmp rfl _ _ (w.heap.size+1) 164 #[.pointer (some ⟨st,0,none⟩),.bool false] (0,0) _ (.int .i64 0) rfl rfl (RBH.out.set _ _) Tryz.underlying164 rfl (by kernel_rfl)) rfl FIN.out
 | true=>
  have H3:=hid (ht rfl)
  clear hf ht RBH
  go_wp2_with fail
  refine Calls.mono H3.out ?_
  rintro e w3 ⟨sz',lf',rfl,⟨d0,d1,d2,d3,d4,d5,d6⟩,hrb,h0,h1,h2⟩
  have RBH:=hid hrb
  have fl:=fun u=>fld99 sz' lf' u
  clear hrb H3 c0 c1 c2 c3 c4 c5 c6
  by_cases hz:lf'=0
  ·have FIN:=hid (h0 hz)
   subst hz
   clear h0 h1 h2
   have e0:=RBH.out.cell 0
   have e1:=RBH.out.cell 1
   have g0:=RBH.out.frozen 0
   have g1:=RBH.out.frozen 1
   simp only[List.getElem?_toArray,List.getElem?_cons_zero,List.getElem?_cons_succ]at e0 e1
   go_wp2
   (try simp only[Exit.inBlock,Exit.then])
   exact bodyPost_ret (results_row_tmp rfl _ _ (w.heap.size+1) 164 #[.pointer (some ⟨st,0,none⟩),.bool false] (0,0) _ (.int .i64 0) rfl rfl (RBH.out.set _ _) Tryz.underlying164 rfl (by kernel_rfl)) rfl FIN.out
  ·by_cases hl:lf'=lf
   ·have FIN:=hid (h1 hz hl)
    subst hl
    clear h0 h1 h2
    have e0:=RBH.out.cell 0
    have e1:=RBH.out.cell 1
    have g0:=RBH.out.frozen 0
    have g1:=RBH.out.frozen 1
    simp only[List.getElem?_toArray,List.getElem?_cons_zero,List.getElem?_cons_succ]at e0 e1
    go_wp2
    (try simp only[Exit.inBlock,Exit.then])
    exact bodyPost_ret (results_row_tmp rfl _ _ (w.heap.size+1) 164 #[.pointer (some ⟨st,0,none⟩),.bool true] (0,0) _ (.int .i64 0) rfl rfl (RBH.out.set _ _) Tryz.underlying164 rfl (by kernel_rfl)) rfl FIN.out
   ·have H4:=hid (h2 hz hl)
    clear h0 h1 h2 RBH
    go_wp2_with fail
    refine Calls.mono H4.out ?_
    rintro e w4 ⟨b2,rfl,⟨c0,c1,c2,c3,c4,c5,c6⟩,hrb,hF⟩
    have RBH:=hid hrb
    have FIN:=hid hF
    clear hrb hF H4 d0 d1 d2 d3 d4 d5 d6
    have e0:=RBH.out.cell 0
    have e1:=RBH.out.cell 1
    have g0:=RBH.out.frozen 0
    have g1:=RBH.out.frozen 1
    simp only[List.getElem?_toArray,List.getElem?_cons_zero,List.getElem?_cons_succ]at e0 e1
    go_wp2
    (try simp only[Exit.inBlock,Exit.then])
    exact bodyPost_ret (results_row_tmp rfl _ _ (w.heap.size+1) 164 #[.pointer (some ⟨st,0,none⟩),.bool b2] (0,0) _ (.int .i64 0) rfl rfl (RBH.out.set _ _) Tryz.underlying164 rfl (by kernel_rfl)) rfl FIN.out
def bgn (C:Nat->List Int) (f r:Nat) (lf:Int):Bool:=if isPg r 0 (C f)=false then false else if lfOf (C f)=0 then false else if lfOf (C f)=lf then true else whl C f r
theorem Opn.begun(h:Opn Y w F K N C t L Ms n)(hx:Spb w x f r F.st)(hY:¬Y x)(sz lf:Int)(hr:r<=262144)(hK:K+1+pagesN r<4611686018427387904)(h1:64<=f)(h2:f+pagesN r<=F.nb)(h3:1<=pagesN r) :
  Calls Tryz.prog 145 #[.agg #[.pointer (some ⟨x,0,none⟩),.int .i64 sz,.int .i64 lf,.pointer (some ⟨t,0,none⟩)]] w fun e w'=>∃K' Y',e=.returned (.tuple #[.agg #[.pointer (some ⟨F.st,0,none⟩),.bool (bgn C f r lf)],.int .i64 0])/\K'<=K+1+pagesN r/\Opn Y' w' F K' N C t L Ms n/\Gr Y Y' w/\But Y w w':=by
 refine begun_walk (f:=f) (r:=r) (st:=F.st) (fun w0 hw0=>?_)
 have hxl:=hx.lt
 have hlt:=h.lt
 have z0:w0.heap.size=w.heap.size+2:=by rw[hw0];simp
 have b0:Below w.heap.size w w0:=by rw[hw0];exact (((Below.refl _ _).alloc (Nat.le_refl _) _).alloc (by simp) _).drew
 have hv0:w0.heap[w.heap.size]?=some (.cells #[.pointer (some ⟨x,0,none⟩),.int .i64 sz,.int .i64 lf,.pointer (some ⟨t,0,none⟩)] 103 (0,0)):=by rw[hw0];exact (heap2 _ _ _).1
 have hc0:Rb2 w0 (w.heap.size+1):=by rw[hw0];exact (heap2 _ _ _).2
 have hx0:Spb w0 x f r F.st:=hx.keep (b0.block x hxl)
 have ST:∀w',But Y w0 w'->(w'.cell? ⟨w.heap.size,0,none⟩=some (.pointer (some ⟨x,0,none⟩))/\w'.cell? ⟨w.heap.size,1,none⟩=some (.int .i64 sz)/\w'.cell? ⟨w.heap.size,2,none⟩=some (.int .i64 lf)/\w'.cell? ⟨w.heap.size,3,none⟩=some (.pointer (some ⟨t,0,none⟩))/\w'.cell? ⟨x,2,none⟩=some (.pointer (some ⟨F.st,0,none⟩))/\w'.cell? ⟨x,0,none⟩=some (.int .i64 (f:Int))/\w'.cell? ⟨x,1,none⟩=some (.int .i64 (r:Int)))/\Rb2 w' (w.heap.size+1):=fun w' b=>by
  have hv:=(b.block w.heap.size (by omega) (fun q=>by have:=hlt _ q;omega)).trans hv0
  have hb:Rb2 w' (w.heap.size+1):=(b.block (w.heap.size+1) (by omega) (fun q=>by have:=hlt _ q;omega)).trans hc0
  have hx':=hx0.keep (b.block x hx0.lt hY)
  exact⟨⟨by simp[World.cell?,hv],by simp[World.cell?,hv],by simp[World.cell?,hv],by simp[World.cell?,hv],hx'.cell 2,hx'.cell 0,hx'.cell 1⟩,hb⟩
 have FIN:∀(bb:Bool) K' Y' w',bb=bgn C f r lf->K'<=K+1+pagesN r->Opn Y' w' F K' N C t L Ms n->Gr Y Y' w0->But Y w0 w'->∃K2 Y2,(.returned (.tuple #[.agg #[.pointer (some ⟨F.st,0,none⟩),.bool bb],.int .i64 0]):Ending)=.returned (.tuple #[.agg #[.pointer (some ⟨F.st,0,none⟩),.bool (bgn C f r lf)],.int .i64 0])/\K2<=K+1+pagesN r/\Opn Y2 ((w'.setCell ⟨w.heap.size+1,0,none⟩ (.pointer (some ⟨F.st,0,none⟩))).setCell ⟨w.heap.size+1,1,none⟩ (.bool bb)) F K2 N C t L Ms n/\Gr Y Y2 w/\But Y w ((w'.setCell ⟨w.heap.size+1,0,none⟩ (.pointer (some ⟨F.st,0,none⟩))).setCell ⟨w.heap.size+1,1,none⟩ (.bool bb)):=fun bb K' Y' w' e hk q1 q2 q3=>by
  have s3:=q3.size
  have nY:¬Y' (w.heap.size+1):=fun q=>by
   have:=hlt _ (q2 _ (by omega) q)
   omega
  have bs:But (fun k=>k=w.heap.size+1) w' ((w'.setCell ⟨w.heap.size+1,0,none⟩ (.pointer (some ⟨F.st,0,none⟩))).setCell ⟨w.heap.size+1,1,none⟩ (.bool bb)):=((But.refl (fun k=>k=w.heap.size+1) w').setCell (p:=⟨w.heap.size+1,0,none⟩) rfl _).setCell (p:=⟨w.heap.size+1,1,none⟩) rfl _
  refine⟨K',Y',by rw[e],hk,q1.keep bs (fun k _ a b=>nY (a ▸ b)),fun k hk q=>q2 k (by omega) q,?_⟩
  exact ((But.of_below b0 (X:=Y)).trans q3).comp bs (fun k hk q=>by omega)
 refine⟨(ST w0 (But.refl _ _)).1,?_⟩
 refine Calls.mono ((h.below b0).sread (by omega) f h1 (by omega)) ?_
 rintro e w1 ⟨g,cp,Y1,rfl,r1,r2,r3,r4,r5,r6,r7⟩
 refine⟨g,cp,rfl,(ST w1 r7).1,Calls.mono (isPage_any (r:=r) (n:=0) (f:Int) hr (by omega) r3 r4) ?_⟩
 rintro e w2 ⟨rfl,b2⟩
 have B2:But Y w0 w2:=r7.comp (But.of_below b2 (X:=fun _=>False)) (fun _ _ q=>q.elim)
 obtain⟨t1,t2⟩:=ST w2 B2
 refine⟨_,rfl,t1,t2,fun hb=>?_,fun hb=>?_⟩
 ·exact FIN false _ Y1 w2 (by unfold bgn;rw[if_pos hb]) (by omega) (r1.below b2) r6 B2
 ·refine Calls.mono (shead_any (r3.keep (b2.block g r3.lt)) r4) ?_
  rintro e w3 ⟨rfl,b3⟩
  have B3:But Y w0 w3:=B2.comp (But.of_below b3 (X:=fun _=>False)) (fun _ _ q=>q.elim)
  obtain⟨t3,t4⟩:=ST w3 B3
  have h3':=(r1.below b2).below b3
  have hb':¬isPg r 0 (C f)=false:=by rw[hb];decide
  refine⟨_,_,rfl,t3,t4,fun hz=>?_,fun hz hl=>?_,fun hz hl=>?_⟩
  ·exact FIN false _ Y1 w3 (by unfold bgn;rw[if_neg hb',if_pos hz]) (by omega) h3' r6 B3
  ·exact FIN true _ Y1 w3 (by unfold bgn;rw[if_neg hb',if_neg hz,if_pos hl]) (by omega) h3' r6 B3
  ·have hx3:Spb w3 x f r F.st:=hx0.keep (B3.block x hx0.lt hY)
   refine Calls.mono (h3'.isWhole hx3 (fun q=>hY (r6 x hx0.lt q)) sz lf hr (by omega) h1 h2) ?_
   rintro e w4 ⟨K4,Y4,rfl,m1,m2,m3,m4⟩
   have s3:=B3.size
   have B4:But Y w0 w4:=B3.comp m4 r6
   obtain⟨t5,t6⟩:=ST w4 B4
   exact⟨_,rfl,t5,t6,FIN _ _ Y4 w4 (by unfold bgn;rw[if_neg hb',if_neg hz,if_neg hl]) (by omega) m2 (r6.trans m3 s3) B4⟩
open Go.RowKit Go.Deep
def Bxk (B:Nat) (Y:Nat->Prop) (A:World) (q:Nat) (v:Value):Prop:=B<=q/\¬Y q/\A.heap[q]?=some (.cells #[v] 65 (0,0))
theorem Bxk.cell(h:Bxk B Y A q v):A.cell? ⟨q,0,none⟩=some v:=by simp[World.cell?,h.2.2]
theorem Bxk.frozen(h:Bxk B Y A q v):A.frozen? ⟨q,0,none⟩=false:=by simp[World.frozen?,h.2.2]
theorem Bxk.lt(h:Bxk B Y A q v):q<A.heap.size:=(Array.getElem?_eq_some_iff.1 h.2.2).1
theorem Bxk.keep(h:Bxk B Y A q v)(hb:But Y A A')(g:Gr Y Y' A):Bxk B Y' A' q v:=⟨h.1,fun e=>h.2.1 (g q h.lt e),(hb.block q h.lt h.2.1).trans h.2.2⟩
theorem Bxk.but(h:Bxk B Y A q v)(hb:But X A A')(hx:¬X q):Bxk B Y A' q v:=⟨h.1,h.2.1,(hb.block q h.lt hx).trans h.2.2⟩
theorem Bxk.set(h:Bxk B Y A q v)(u:Value):Bxk B Y (A.setCell ⟨q,0,none⟩ u) q u:=⟨h.1,h.2.1,by
 simp only[World.setCell,Array.getElem?_modify]
 simp[h.2.2]⟩
theorem Bxk.ne{g:Nat}(h:Bxk B Y A q v)(ho:Own A g m cp zs):g≠q:=fun e=>by
 obtain⟨cur,hc⟩:=own_cur5 ho
 rw[e,h.2.2]at hc
 cases hc
structure GfC (Y:Nat->Prop) (w0:World) (F:Cf) (K N:Nat) (C:Nat->List Int) (t:Nat) (L:Nat->Option (List Int)) (Ms:List (Nat->Option (List Int))) (n x f r k gb:Nat) (sz lf bk zk:Int) (b ab:Bool):Prop where
 sp:Spb w0 x f r F.st
 nx:¬Y x
 gbk:w0.heap[gb]?=some (.cells #[.pointer (some ⟨x,0,none⟩),.int .i64 sz,.int .i64 lf,.pointer (some ⟨t,0,none⟩),.pointer (some ⟨F.st,0,none⟩),.bool b,.int .i64 (k:Int),.int .i64 bk,.int .i64 zk,.bool ab] 166 (0,0))
 lt:∀q,Y q->q<gb
 hr:r<=262144
 hk:k<=1000
 hK:K+2<4611686018427387904
 f1:64<=f+(indexN r+k)
 f2:f+(indexN r+k)<F.nb
 pg:isPg r (indexN r+k) ((L (f+(indexN r+k))).getD (C (f+(indexN r+k))))=true
def GfQ (B:Nat) (Y:Nat->Prop) (A:World) (z1 z2:List Int) (g cp g2 cp2:Nat):Prop:=(Own A g 512 cp z1/\Pl.isB z1/\¬Y g/\B<=g)/\(Own A g2 512 cp2 z2/\Pl.isB z2/\¬Y g2/\B<=g2)/\g≠g2
def GfS (Y:Nat->Prop) (w0:World) (F:Cf) (K N:Nat) (C:Nat->List Int) (t:Nat) (L:Nat->Option (List Int)) (Ms:List (Nat->Option (List Int))) (n x f r k gb:Nat) (sz lf bk zk:Int) (b ab:Bool) (s:Nat) (b4 b5:Option Nat) (v4 v5:Value) (g cp g2 cp2:Nat) (A:World):Prop :=
 GfC Y w0 F K N C t L Ms n x f r k gb sz lf bk zk b ab/\∃Y',Opn Y' A F (if s=2 then K+2 else K) N C t L Ms n/\Gr Y Y' w0/\But Y w0 A/\(∀q,b4=some q->Bxk w0.heap.size Y' A q v4)/\(∀q,b5=some q->Bxk w0.heap.size Y' A q v5)/\(∀q q',b4=some q->b5=some q'->q≠q')/\(s=2->GfQ w0.heap.size Y' A ((L (f+(indexN r+k))).getD (C (f+(indexN r+k)))) (cpg b r (indexN r+k) (C (f+(indexN r+k)))) g cp g2 cp2)
section
variable {Y:Nat->Prop} {w0:World} {F:Cf} {K N:Nat} {C:Nat->List Int} {t:Nat} {L:Nat->Option (List Int)} {Ms:List (Nat->Option (List Int))} {n:Nat} {x f r k gb:Nat} {sz lf bk zk:Int} {b ab:Bool} {s:Nat} {b4 b5:Option Nat} {q4 q5:Nat} {v4 v5:Value} {g cp g2 cp2:Nat} {A:World}
theorem GfC.cells(h:GfC Y w0 F K N C t L Ms n x f r k gb sz lf bk zk b ab)(hb:But Y w0 A):A.cell? ⟨gb,0,none⟩=some (.pointer (some ⟨x,0,none⟩))/\A.cell? ⟨gb,1,none⟩=some (.int .i64 sz)/\A.cell? ⟨gb,2,none⟩=some (.int .i64 lf)/\A.cell? ⟨gb,3,none⟩=some (.pointer (some ⟨t,0,none⟩))/\A.cell? ⟨gb,4,none⟩=some (.pointer (some ⟨F.st,0,none⟩))/\A.cell? ⟨gb,5,none⟩=some (.bool b)/\A.cell? ⟨gb,6,none⟩=some (.int .i64 (k:Int))/\A.cell? ⟨x,0,none⟩=some (.int .i64 (f:Int))/\A.cell? ⟨x,1,none⟩=some (.int .i64 (r:Int)):=by
 have gl:gb<w0.heap.size:=(Array.getElem?_eq_some_iff.1 h.gbk).1
 have hg:=(hb.block gb gl (fun q=>by have:=h.lt _ q;omega)).trans h.gbk
 have hx:=h.sp.keep (hb.block x h.sp.lt h.nx)
 exact⟨by simp[World.cell?,hg],by simp[World.cell?,hg],by simp[World.cell?,hg],by simp[World.cell?,hg],by simp[World.cell?,hg],by simp[World.cell?,hg],by simp[World.cell?,hg],hx.cell 0,hx.cell 1⟩
theorem GfS.sc(h:GfS Y w0 F K N C t L Ms n x f r k gb sz lf bk zk b ab s b4 b5 v4 v5 g cp g2 cp2 A):A.cell? ⟨gb,0,none⟩=some (.pointer (some ⟨x,0,none⟩))/\A.cell? ⟨gb,1,none⟩=some (.int .i64 sz)/\A.cell? ⟨gb,2,none⟩=some (.int .i64 lf)/\A.cell? ⟨gb,3,none⟩=some (.pointer (some ⟨t,0,none⟩))/\A.cell? ⟨gb,4,none⟩=some (.pointer (some ⟨F.st,0,none⟩))/\A.cell? ⟨gb,5,none⟩=some (.bool b)/\A.cell? ⟨gb,6,none⟩=some (.int .i64 (k:Int))/\A.cell? ⟨x,0,none⟩=some (.int .i64 (f:Int))/\A.cell? ⟨x,1,none⟩=some (.int .i64 (r:Int)):=by
 obtain⟨hc,Y',h1,h2,h3,_⟩:=h
 exact hc.cells h3
theorem GfS.box(h1:Opn Y' A F K' N C t L Ms n)(hb:But Y w0 A):Bxk w0.heap.size Y' (A.alloc (.cells #[.slice none 0 0] 65)) A.heap.size (.slice none 0 0):=⟨hb.size,fun q=>by have:=h1.lt _ q;omega,Array.getElem?_push_size⟩
theorem GfQ.below(h:GfQ B Y' A z1 z2 g cp g2 cp2)(b:Below A.heap.size A A'):GfQ B Y' A' z1 z2 g cp g2 cp2:=⟨⟨h.1.1.keep (b.block g h.1.1.lt),h.1.2⟩,⟨h.2.1.1.keep (b.block g2 h.2.1.1.lt),h.2.1.2⟩,h.2.2⟩
theorem GfS.al4(h:GfS Y w0 F K N C t L Ms n x f r k gb sz lf bk zk b ab s none b5 (.slice none 0 0) v5 g cp g2 cp2 A):GfS Y w0 F K N C t L Ms n x f r k gb sz lf bk zk b ab s (some A.heap.size) b5 (.slice none 0 0) v5 g cp g2 cp2 (A.alloc (.cells #[.slice none 0 0] 65)):=by
 obtain⟨hc,Y',h1,h2,h3,h4,h5,h6,h7⟩:=h
 have b:Below A.heap.size A (A.alloc (.cells #[.slice none 0 0] 65)):=(Below.refl _ _).alloc (Nat.le_refl _) _
 exact⟨hc,Y',h1.below b,h2,h3.comp (But.of_below b (X:=fun _=>False)) (fun _ _ q=>q.elim),fun q e=>by cases e;exact GfS.box h1 h3,fun q e=>(h5 q e).but (But.of_below b (X:=fun _=>False)) (fun q=>q),fun q q' e e'=>by cases e;have:=(h5 q' e').lt;omega,fun e=>(h7 e).below b⟩
theorem GfS.al5(h:GfS Y w0 F K N C t L Ms n x f r k gb sz lf bk zk b ab s b4 none v4 (.slice none 0 0) g cp g2 cp2 A):GfS Y w0 F K N C t L Ms n x f r k gb sz lf bk zk b ab s b4 (some A.heap.size) v4 (.slice none 0 0) g cp g2 cp2 (A.alloc (.cells #[.slice none 0 0] 65)):=by
 obtain⟨hc,Y',h1,h2,h3,h4,h5,h6,h7⟩:=h
 have b:Below A.heap.size A (A.alloc (.cells #[.slice none 0 0] 65)):=(Below.refl _ _).alloc (Nat.le_refl _) _
 exact⟨hc,Y',h1.below b,h2,h3.comp (But.of_below b (X:=fun _=>False)) (fun _ _ q=>q.elim),fun q e=>(h4 q e).but (But.of_below b (X:=fun _=>False)) (fun q=>q),fun q e=>by cases e;exact GfS.box h1 h3,fun q q' e e'=>by cases e';have:=(h4 q e).lt;omega,fun e=>(h7 e).below b⟩
theorem GfS.c88(h:GfS Y w0 F K N C t L Ms n x f r k gb sz lf bk zk b ab 0 b4 b5 v4 v5 g cp g2 cp2 A):Calls Tryz.prog 88 #[.agg #[.int .i64 (f:Int),.int .i64 (r:Int)],.int .i64 (k:Int)] A fun e A'=>e=.returned (.int .i64 (((indexN r+k):Nat):Int))/\GfS Y w0 F K N C t L Ms n x f r k gb sz lf bk zk b ab 1 b4 b5 v4 v5 g cp g2 cp2 A':=by
 obtain⟨hc,Y',h1,h2,h3,h4,h5,h6,h7⟩:=h
 refine Calls.mono (countsPage_any (f:Int) r k hc.hr hc.hk A) ?_
 rintro e A' ⟨rfl,b⟩
 exact⟨rfl,hc,Y',h1.below b,h2,h3.comp (But.of_below b (X:=fun _=>False)) (fun _ _ q=>q.elim),fun q e=>(h4 q e).but (But.of_below b (X:=fun _=>False)) (fun q=>q),fun q e=>(h5 q e).but (But.of_below b (X:=fun _=>False)) (fun q=>q),h6,fun e=>absurd e (by decide)⟩
theorem GfS.c146{g0 c0 g1 c1:Nat}(h:GfS Y w0 F K N C t L Ms n x f r k gb sz lf bk zk b ab 1 b4 b5 v4 v5 g0 c0 g1 c1 A):Calls Tryz.prog 146 #[.agg #[.pointer (some ⟨x,0,none⟩),.int .i64 sz,.int .i64 lf,.pointer (some ⟨t,0,none⟩)],.agg #[.pointer (some ⟨F.st,0,none⟩),.bool b],.int .i64 (((indexN r+k):Nat):Int)] A fun e A'=>∃g cp g2 cp2,e=.returned (.tuple #[.slice (some ⟨g,0,none⟩) 512 cp,.slice (some ⟨g2,0,none⟩) 512 cp2,.int .i64 0])/\GfS Y w0 F K N C t L Ms n x f r k gb sz lf bk zk b ab 2 b4 b5 v4 v5 g cp g2 cp2 A':=by
 obtain⟨hc,Y',h1,h2,h3,h4,h5,h6,h7⟩:=h
 have hi:=indexN_le hc.hr
 have hx:=hc.sp.keep (h3.block x hc.sp.lt hc.nx)
 have s3:=h3.size
 refine Calls.mono (Opn.both h1 (by have:=hc.hK;simp;omega) hx (fun q=>hc.nx (h2 x hc.sp.lt q)) sz lf b (indexN r+k) hc.hr (by have:=hc.hk;omega) hc.f1 hc.f2 hc.pg) ?_
 rintro e A' ⟨g,cp,g2,cp2,Y2,rfl,m1,m2,m3,m4,m5,m6⟩
 refine⟨g,cp,g2,cp2,rfl,hc,Y2,m1,h2.trans m5 s3,h3.comp m6 h2,fun q e=>(h4 q e).keep m6 m5,fun q e=>(h5 q e).keep m6 m5,h6,fun _=>⟨⟨m3.1,m3.2.1,m3.2.2,by omega⟩,⟨m4.1,m4.2.1,m4.2.2,by omega⟩,m2.2.2⟩⟩
end
end Go.Proofs.YtlefjidbpjkhlaaGreat
