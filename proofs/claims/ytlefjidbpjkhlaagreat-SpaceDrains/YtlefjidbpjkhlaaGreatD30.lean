import Derived.Test.YtlefjidbpjkhlaaGreatD21
import Derived.Test.YtlefjidbpjkhlaaGreatD11
import Derived.Laws.Rows
import Derived.Laws.ResultCell
import Derived.Laws.Tables
import Derived.Test.YtlefjidbpjkhlaaGreatD29
set_option maxRecDepth 100000
set_option maxHeartbeats 16000000
namespace Go.Proofs.YtlefjidbpjkhlaaGreat
variable {w w':World}
variable {K N f n r st t x:Nat}
variable {PO:Ending->World->Prop}
variable {Y:Nat->Prop}
variable {F:Cf}
variable {C:Nat->List Int}
variable {L:Nat->Option (List Int)}
variable {Ms:List (Nat->Option (List Int))}
open Go.RowKit
def Vwb (w:World) (g:Nat) (a b c d:Value):Prop:=w.heap[g]?=some (.cells #[a,b,c,d] 103 (0,0))
theorem Vwb.cell{g:Nat}{a b c d:Value}(h:Vwb w g a b c d)(i:Nat):w.cell? ⟨g,i,none⟩=#[a,b,c,d][i]?:=by
 unfold Vwb at h
 simp[World.cell?,h]
theorem Vwb.frozen{g:Nat}{a b c d:Value}(h:Vwb w g a b c d)(i:Nat):w.frozen? ⟨g,i,none⟩=false:=by
 unfold Vwb at h
 simp[World.frozen?,h]
theorem Vwb.set{g:Nat}{a b c d:Value}(h:Vwb w g a b c d)(a' b' c' d':Value):Vwb ((((w.setCell ⟨g,0,none⟩ a').setCell ⟨g,1,none⟩ b').setCell ⟨g,2,none⟩ c').setCell ⟨g,3,none⟩ d') g a' b' c' d':=by
 unfold Vwb at *
 simp only[World.setCell,Array.getElem?_modify]
 simp[h]
def LkC (w:World) (x f r st t:Nat) (PO:Ending->World->Prop):Prop :=
 ∀w0,w0=w.alloc (.cells #[.pointer none,.int .i64 0,.int .i64 0,.pointer none] 103)->w0.cell? ⟨x,2,none⟩=some (.pointer (some ⟨st,0,none⟩))/\Calls Tryz.prog 93 #[.pointer (some ⟨st,0,none⟩),.pointer (some ⟨t,0,none⟩)] w0 fun e w1=>e=.returned (.int .i64 0) /\
  ∀w2,w2=(w1.alloc (.cells #[.pointer (some ⟨t,0,none⟩)] 101)).drew->(w2.cell? ⟨x,0,none⟩=some (.int .i64 (f:Int))/\w2.cell? ⟨x,1,none⟩=some (.int .i64 (r:Int))/\w2.cell? ⟨w1.heap.size,0,none⟩=some (.pointer (some ⟨t,0,none⟩)))/\Calls Tryz.prog 87 #[.agg #[.int .i64 (f:Int),.int .i64 (r:Int)],.iface 101 (.agg #[.pointer (some ⟨t,0,none⟩)]),.int .i64 0] w2 fun e w3=>∃g cp,e=.returned (.tuple #[.slice (some ⟨g,0,none⟩) 512 cp,.int .i64 0])/\(w3.cell? ⟨x,0,none⟩=some (.int .i64 (f:Int))/\w3.cell? ⟨x,1,none⟩=some (.int .i64 (r:Int))/\w3.cell? ⟨w1.heap.size,0,none⟩=some (.pointer (some ⟨t,0,none⟩)))/\Calls Tryz.prog 94 #[.slice (some ⟨g,0,none⟩) 512 cp] w3 fun e w4=>∃sz lf:Int,e=.returned (.agg #[.int .i64 sz,.int .i64 lf])/\(¬sz<1/\¬(r:Int)<sz) /\
   ∀w5,w5=(w4.alloc (.cells #[.int .i64 sz,.int .i64 lf] 99)).drew->(w5.cell? ⟨x,1,none⟩=some (.int .i64 (r:Int))/\w5.cell? ⟨w4.heap.size,0,none⟩=some (.int .i64 sz)/\w5.cell? ⟨w4.heap.size,1,none⟩=some (.int .i64 lf)/\w5.cell? ⟨w1.heap.size,0,none⟩=some (.pointer (some ⟨t,0,none⟩)))/\Vwb w5 w.heap.size (.pointer none) (.int .i64 0) (.int .i64 0) (.pointer none)/\PO (.returned (.tuple #[.agg #[.pointer (some ⟨x,0,none⟩),.int .i64 sz,.int .i64 lf,.pointer (some ⟨t,0,none⟩)],.int .i64 0])) ((((w5.setCell ⟨w.heap.size,0,none⟩ (.pointer (some ⟨x,0,none⟩))).setCell ⟨w.heap.size,1,none⟩ (.int .i64 sz)).setCell ⟨w.heap.size,2,none⟩ (.int .i64 lf)).setCell ⟨w.heap.size,3,none⟩ (.pointer (some ⟨t,0,none⟩)))
theorem look_walk(H:LkC w x f r st t PO):Calls Tryz.prog 50 #[.pointer (some ⟨x,0,none⟩),.pointer (some ⟨t,0,none⟩)] w PO:=by
 obtain⟨w0,hw0⟩:∃w0,w0=w.alloc (.cells #[.pointer none,.int .i64 0,.int .i64 0,.pointer none] 103):=⟨_,rfl⟩
 have HW:=hid hw0
 obtain⟨k2,h1⟩:=H w0 hw0
 have H1:=hid h1
 rw[hw0]at k2
 clear H h1 hw0
 go_enter Tryz.func50,Tryz.ntmps50
 go_wp2_with fail
 rw[<- HW.out]
 refine Calls.mono H1.out ?_
 rintro e w1 ⟨rfl,h2⟩
 obtain⟨w2,hw2⟩:∃w2,w2=(w1.alloc (.cells #[.pointer (some ⟨t,0,none⟩)] 101)).drew:=⟨_,rfl⟩
 obtain⟨kS,h3⟩:=h2 w2 hw2
 have H3:=hid h3
 have HW2:=hid hw2
 rw[hw2]at kS
 clear h2 h3 hw2 H1 k2 HW
 go_wp2_with fail
 refine Gz (S:=fun w'=>w'.cell? ⟨x,0,none⟩=some (.int .i64 (f:Int))/\w'.cell? ⟨x,1,none⟩=some (.int .i64 (r:Int))/\w'.cell? ⟨w1.heap.size,0,none⟩=some (.pointer (some ⟨t,0,none⟩))) kS (fun hSS=>?_)
 refine Ti 0 rfl ?_
 refine Ti 1 rfl ?_
 refine Ti 2 rfl ?_
 refine Ti 3 rfl ?_
 try simp only[Act.put,zA,zB,zC]
 refine Ti 4 rfl ?_
 refine Ti 5 rfl ?_
 try simp only[Act.put,zA,zB,zC]
 refine Ri 6 rfl (fun K9 hK9=>?_)
 go_simp
 go_at_call 87
 rw[<- HW2.out]
 refine Calls.mono H3.out ?_
 rintro e w3 ⟨g,cp,rfl,hk3,h4⟩
 have H4:=hid h4
 clear h4 H3 HW2
 refine hK9.out _ _ hk3 (fun hSS=>?_)
 try simp only[Act.put,zA,zB,zC]
 refine Ti 7 rfl ?_
 refine Ti 8 rfl ?_
 refine Ti 9 rfl ?_
 try simp only[Act.put,zA,zB,zC]
 refine Ti 10 rfl ?_
 refine Ti 11 rfl ?_
 try simp only[Act.put,zA,zB,zC]
 refine Dn ?_
 clear hSS
 go_wp2_with fail
 refine Calls.mono H4.out ?_
 rintro e w4 ⟨sz,lf,rfl,⟨hz1,hz2⟩,h5⟩
 obtain⟨w5,hw5⟩:∃w5,w5=(w4.alloc (.cells #[.int .i64 sz,.int .i64 lf] 99)).drew:=⟨_,rfl⟩
 obtain⟨kT,hv,h6⟩:=h5 w5 hw5
 have HF:=hid h6
 have HV:=hid hv
 have HW5:=hid hw5
 rw[hw5]at kT
 clear h5 h6 hw5 H4 hv kS
 go_wp2_with fail
 refine Gz (S:=fun w'=>w'.cell? ⟨x,1,none⟩=some (.int .i64 (r:Int))/\w'.cell? ⟨w4.heap.size,0,none⟩=some (.int .i64 sz)/\w'.cell? ⟨w4.heap.size,1,none⟩=some (.int .i64 lf)/\w'.cell? ⟨w1.heap.size,0,none⟩=some (.pointer (some ⟨t,0,none⟩))) kT (fun hSS=>?_)
 refine Ti 0 rfl ?_
 refine Ti 1 rfl ?_
 try simp only[Act.put,zA,zB,zC]
 refine wpAnyH_take (i:=2) (oi:=({ dst:=some 44,op:=Op.binOp BinOp.lss 3 (Operand.tmp 43) (Operand.const (Value.int IntKind.i64 1)) 3,type:=4,pos:=_,after:=_,guard:=none }:Oper)) (v:=.bool false) rfl (by kernel_rfl) (by kernel_rfl) (by kernel_rfl) (fun _ _ _ h=>h) (Or.inl ⟨by rfl,?_⟩) hSS ?_
 ·intro w9 hSw
  (try dsimp only at hSw)
  (try go_split_ands)
  first | (go_simp;done) | (go_simp;simp[hz1];done)
 try simp only[Act.put,zA,zB,zC]
 refine Ti 3 rfl ?_
 refine Ti 4 rfl ?_
 try simp only[Act.put,zA,zB,zC]
 refine Ti 5 rfl ?_
 refine Ti 6 rfl ?_
 refine Ti 7 rfl ?_
 refine Ti 8 rfl ?_
 try simp only[Act.put,zA,zB,zC]
 refine Ti 9 rfl ?_
 refine Ti 10 rfl ?_
 try simp only[Act.put,zA,zB,zC]
 refine wpAnyH_take (i:=11) (oi:=({ dst:=some 53,op:=Op.binOp BinOp.gtr 3 (Operand.tmp 47) (Operand.tmp 52) 3,type:=4,pos:=_,after:=_,guard:=some (3,false) }:Oper)) (v:=.bool false) rfl (by kernel_rfl) (by kernel_rfl) (by kernel_rfl) (fun _ _ _ h=>h) (Or.inl ⟨by rfl,?_⟩) hSS ?_
 ·intro w9 hSw
  (try dsimp only at hSw)
  (try go_split_ands)
  first | (go_simp;done) | (go_simp;simp[hz2];done)
 try simp only[Act.put,zA,zB,zC]
 refine Ti 12 rfl ?_
 try simp only[Act.put,zA,zB,zC]
 refine Dn ?_
 clear hSS
 rw[<- HW5.out]at kT ⊢
 obtain⟨a0,a1,a2,a3⟩:=kT
 have b0:=HV.out.cell 0
 have b1:=HV.out.cell 1
 have b2:=HV.out.cell 2
 have b3:=HV.out.cell 3
 have f0:=HV.out.frozen 0
 have f1:=HV.out.frozen 1
 have f2:=HV.out.frozen 2
 have f3:=HV.out.frozen 3
 simp only[List.getElem?_toArray,List.getElem?_cons_zero,List.getElem?_cons_succ]at b0 b1 b2 b3
 clear HW5
 go_wp2
 (try simp only[Exit.inBlock,Exit.then])
 exact bodyPost_ret (results_row_tmp rfl _ _ w.heap.size 103 #[.pointer (some ⟨x,0,none⟩),.int .i64 sz,.int .i64 lf,.pointer (some ⟨t,0,none⟩)] (0,0) _ (.int .i64 0) rfl rfl (HV.out.set _ _ _ _) Tryz.underlying103 rfl (by kernel_rfl)) rfl HF.out
open Go.RowKit Go.Deep
def Spb (w:World) (x f r st:Nat):Prop:=w.heap[x]?=some (.cells #[.int .i64 (f:Int),.int .i64 (r:Int),.pointer (some ⟨st,0,none⟩)] 95 (0,0))
theorem Spb.lt(h:Spb w x f r st):x<w.heap.size:=(Array.getElem?_eq_some_iff.1 h).1
theorem Spb.keep(h:Spb w x f r st)(hk:w'.heap[x]?=w.heap[x]?):Spb w' x f r st:=hk.trans h
theorem Spb.cell(h:Spb w x f r st)(i:Nat):w.cell? ⟨x,i,none⟩=#[.int .i64 (f:Int),.int .i64 (r:Int),.pointer (some ⟨st,0,none⟩)][i]?:=by
 unfold Spb at h
 simp[World.cell?,h]
theorem Below.drew1(w:World):Below w.heap.size w w.drew:=(Below.refl w.heap.size w).drew
def LkP (Y:Nat->Prop) (w:World) (x t:Nat) (zs:List Int) (X:(Nat->Prop)->World->Prop) (e:Ending) (w':World):Prop :=
 ∃Y',e=.returned (.tuple #[.agg #[.pointer (some ⟨x,0,none⟩),.int .i64 (szOf zs),.int .i64 (lfOf zs),.pointer (some ⟨t,0,none⟩)],.int .i64 0])/\X Y' w'/\Gr Y Y' w/\But Y w w'
theorem Opn.look(h:Opn Y w F K N C t L Ms n)(hK:K<4611686018427387904)(hx:Spb w x f r F.st)(hY:¬Y x)(hr:r<=262144)(hf1:64<=f)(hf2:f<F.nb)(hp:isPg r 0 ((L f).getD (C f))=true)(hs1:1<=szOf ((L f).getD (C f)))(hs2:szOf ((L f).getD (C f))<=r) :
  Calls Tryz.prog 50 #[.pointer (some ⟨x,0,none⟩),.pointer (some ⟨t,0,none⟩)] w (LkP Y w x t ((L f).getD (C f)) (fun Y' w'=>Opn Y' w' F (K+1) N C t L Ms n)):=by
 obtain⟨zs,hzs⟩:∃zs,zs=(L f).getD (C f):=⟨_,rfl⟩
 rw[<- hzs]at hp hs1 hs2 ⊢
 refine look_walk (f:=f) (r:=r) (st:=F.st) (fun w0 hw0=>?_)
 have hxl:=hx.lt
 have hlt:=h.lt
 have z0:w0.heap.size=w.heap.size+1:=by rw[hw0];simp
 have b0:Below w.heap.size w w0:=by rw[hw0];exact (Below.refl _ _).alloc (Nat.le_refl _) _
 have hv0:Vwb w0 w.heap.size (.pointer none) (.int .i64 0) (.int .i64 0) (.pointer none):=by rw[hw0];exact Array.getElem?_push_size
 have hx0:Spb w0 x f r F.st:=hx.keep (b0.block x hxl)
 refine⟨hx0.cell 2,Calls.mono (h.below b0).owns ?_⟩
 rintro e w1 ⟨rfl,b1⟩
 refine⟨rfl,fun w2 hw2=>?_⟩
 have s1:=b1.size
 have z2:w2.heap.size=w1.heap.size+1:=by rw[hw2];simp
 have b2:Below w1.heap.size w1 w2:=by rw[hw2];exact ((Below.refl _ _).alloc (Nat.le_refl _) _).drew
 have b02:Below w.heap.size w w2:=b0.trans ((b1.trans (b2.mono s1)).mono (by omega))
 have hx2:Spb w2 x f r F.st:=hx.keep (b02.block x hxl)
 have ht2:w2.heap[w1.heap.size]?=some (.cells #[.pointer (some ⟨t,0,none⟩)] 101 (0,0)):=by rw[hw2];exact Array.getElem?_push_size
 have hv2:Vwb w2 w.heap.size (.pointer none) (.int .i64 0) (.int .i64 0) (.pointer none):=((b2.block _ (by omega)).trans (b1.block _ (by omega))).trans hv0
 refine⟨⟨hx2.cell 0,hx2.cell 1,by simp[World.cell?,ht2]⟩,?_⟩
 refine Calls.mono ((h.below b02).pageS hK f r 0 hr (by omega) hf1 hf2) ?_
 rintro e w3 ⟨Y3,k1,k2,_,k4,k5⟩
 rw[Nat.add_zero,<- hzs]at k2
 obtain⟨g,cp,rfl,k6,k7,k8,k9⟩:=k2 hp
 have s3:=k5.size
 have keep3:∀k,k<w2.heap.size->w.heap.size<=k->w3.heap[k]?=w2.heap[k]?:=fun k a b=>k5.block k a (fun q=>by have:=hlt _ q;omega)
 have hx3:Spb w3 x f r F.st:=hx2.keep (k5.block x hx2.lt hY)
 have ht3:=(keep3 w1.heap.size (by omega) (by omega)).trans ht2
 have hv3:Vwb w3 w.heap.size (.pointer none) (.int .i64 0) (.int .i64 0) (.pointer none):=(keep3 w.heap.size (by omega) (by omega)).trans hv2
 refine⟨g,cp,rfl,⟨hx3.cell 0,hx3.cell 1,by simp[World.cell?,ht3]⟩,?_⟩
 refine Calls.mono (shead_any k7 k8) ?_
 rintro e w4 ⟨rfl,b4⟩
 refine⟨_,_,rfl,⟨by omega,by omega⟩,fun w5 hw5=>?_⟩
 have s4:=b4.size
 have z5:w5.heap.size=w4.heap.size+1:=by rw[hw5];simp
 have b5:Below w4.heap.size w4 w5:=by rw[hw5];exact ((Below.refl _ _).alloc (Nat.le_refl _) _).drew
 have b35:Below w3.heap.size w3 w5:=b4.trans (b5.mono s4)
 have hx5:Spb w5 x f r F.st:=hx3.keep (b35.block x hx3.lt)
 have hh5:w5.heap[w4.heap.size]?=some (.cells #[.int .i64 (szOf zs),.int .i64 (lfOf zs)] 99 (0,0)):=by rw[hw5];exact Array.getElem?_push_size
 have ht5:=(b35.block w1.heap.size (by omega)).trans ht3
 have hv5:Vwb w5 w.heap.size (.pointer none) (.int .i64 0) (.int .i64 0) (.pointer none):=(b35.block w.heap.size (by omega)).trans hv3
 refine⟨⟨hx5.cell 1,by simp[World.cell?,hh5],by simp[World.cell?,hh5],by simp[World.cell?,ht5]⟩,hv5,?_⟩
 have b56:But (fun k=>k=w.heap.size) w5 ((((w5.setCell ⟨w.heap.size,0,none⟩ (.pointer (some ⟨x,0,none⟩))).setCell ⟨w.heap.size,1,none⟩ (.int .i64 (szOf zs))).setCell ⟨w.heap.size,2,none⟩ (.int .i64 (lfOf zs))).setCell ⟨w.heap.size,3,none⟩ (.pointer (some ⟨t,0,none⟩))):=((((But.refl (fun k=>k=w.heap.size) w5).setCell (p:=⟨w.heap.size,0,none⟩) rfl _).setCell (p:=⟨w.heap.size,1,none⟩) rfl _).setCell (p:=⟨w.heap.size,2,none⟩) rfl _).setCell (p:=⟨w.heap.size,3,none⟩) rfl _
 have g3:Gr Y Y3 w:=fun k hk q=>k4 k (by omega) q
 have hY3:¬Y3 w.heap.size:=fun q=>by
  have:=hlt _ (k4 _ (by omega) q)
  omega
 refine⟨Y3,rfl,(k1.below b35).keep b56 (fun k _ e1 e2=>hY3 (e1 ▸ e2)),g3,?_⟩
 have bb:But Y w w3:=(But.of_below b02 (X:=Y)).trans k5
 exact (bb.comp (But.of_below b35 (X:=fun _=>False)) (fun _ _ q=>q.elim)).comp b56 (fun k hk q=>by omega)
open Go.RowKit Go.Deep
theorem Opn.nb(h:Opn Y w F K N C t L Ms n):F.nb<=524288:=by
 obtain⟨_,_,_,_,_,_,_,_,_,_,_,_,_,q,_⟩:=h
 exact q
theorem pagesN_le(h:r<=262144):pagesN r<=557:=by
 have:=countsN_le h
 have:=indexN_le h
 unfold pagesN
 omega
theorem Opn.checkPages(h:Opn Y w F K N C t L Ms n)(f r:Nat)(hr:r<=262144)(hK:K+pagesN r<4611686018427387904)(h1:64<=f)(h2:f+pagesN r<=F.nb) :
  Calls Tryz.prog 48 #[.agg #[.int .i64 (f:Int),.int .i64 (r:Int)],.pointer (some ⟨t,0,none⟩)] w fun e w'=>∃Y',e=.returned (.int .i64 0)/\Opn Y' w' F (K+pagesN r) N C t L Ms n/\Gr Y Y' w/\But Y w w':=by
 obtain⟨PO,hPO⟩:∃PO:Ending->World->Prop,PO=fun e w'=>∃Y',e=.returned (.int .i64 0)/\Opn Y' w' F (K+pagesN r) N C t L Ms n/\Gr Y Y' w/\But Y w w':=⟨_,rfl⟩
 rw[<- hPO]
 obtain⟨w0,hw0⟩:∃w0,w0=w.alloc (.cells #[.int .i64 (f:Int),.int .i64 (r:Int)] 92):=⟨_,rfl⟩
 have z0:w0.heap.size=w.heap.size+1:=by rw[hw0];simp
 have b0:Below w.heap.size w w0:=by rw[hw0];exact (Below.refl _ _).alloc (Nat.le_refl _) _
 have hblk:w0.heap[w.heap.size]?=some (.cells #[.int .i64 (f:Int),.int .i64 (r:Int)] 92 (0,0)):=by rw[hw0];exact Array.getElem?_push_size
 have hlt:=h.lt
 have hnb:=h.nb
 have hpg:=pagesN_le hr
 have HC:Hid (∀wr,But Y w0 wr->wr.cell? ⟨w.heap.size,0,none⟩=some (.int .i64 (f:Int))/\wr.cell? ⟨w.heap.size,1,none⟩=some (.int .i64 (r:Int))):=fun wr b=>by
  have hb2:=(b.block w.heap.size (by omega) (fun q=>by have:=hlt _ q;omega)).trans hblk
  exact⟨by simp[World.cell?,hb2],by simp[World.cell?,hb2]⟩
 have FIN:Hid (∀wr Y',Opn Y' wr F (K+pagesN r) N C t L Ms n->Gr Y Y' w0->But Y w0 wr->PO (.returned (.int .i64 0)) wr):=fun wr Y' q1 q2 q3=>by
  rw[hPO]
  exact⟨Y',rfl,q1,fun k hk q=>q2 k (by omega) q,(But.of_below b0 (X:=Y)).trans q3⟩
 have HS:Hid (Opn Y w0 F (K+0) N C t L Ms n):=h.below b0
 have HP:=hid (pages_any (f:Int) r hr w0)
 obtain⟨k0,k1⟩:=HC.out w0 (But.refl _ _)
 have HW:=hid hw0
 generalize pagesN r=PN at *
 clear hw0 b0 hblk hPO h hlt z0
 go_enter Tryz.func48,Tryz.ntmps48
 go_wp2_with fail
 rw[<- HW.out]
 go_wp2_with fail
 refine Calls.mono HP.out ?_
 rintro e w1 ⟨rfl,b1⟩
 have B1:=hid b1
 have HS1:=hid (HS.out.below b1)
 clear b1 HP HS k0 k1 HW
 go_wp2_with fail
 go_loopw [10] (fun iv wr=>∃q:Nat,q<=PN/\iv=.int .i64 (q:Int)/\(∃Y',Opn Y' wr F (K+q) N C t L Ms n/\Gr Y Y' w0)/\But Y w0 wr) (fun iv _=>PN-(intOf iv).toNat)
 case atStart=>exact⟨0,Nat.zero_le _,rfl,⟨Y,HS1.out,Gr.refl _ _⟩,But.of_below B1.out⟩
 case round=>
  clear HS1 B1
  rename World=>wo
  obtain⟨q,hq,rfl,⟨Y',hS,hG⟩,hB⟩:=hrel
  by_cases hqn:q<PN
  ·have hqn':(q:Int)<(PN:Int):=by omega
   have HR:Hid (Calls Tryz.prog 47 #[.pointer (some ⟨t,0,none⟩),.int .i64 ((f:Int)+(q:Int))] wo fun e w'=>∃g cp,e=.returned (.tuple #[.slice (some ⟨g,0,none⟩) 512 cp,.int .i64 0])/\(∃Y',Opn Y' w' F (K+(q+1)) N C t L Ms n/\Gr Y Y' w0)/\But Y w0 w'):=by
    rw[show ((f:Int)+(q:Int))=((f+q:Nat):Int) by omega]
    refine Calls.mono (hS.read (by omega) (f+q) (by omega) (by omega)) ?_
    rintro e w2 ⟨g,cp,Y2,rfl,r1,r2,r3,r4,r5,r6,r7⟩
    have hs:=hB.size
    exact⟨g,cp,rfl,⟨Y2,r1,hG.trans r6 hs⟩,hB.comp r7 hG⟩
   have hc0:=(HC.out wo hB).1
   clear hS hG hB
   go_wp2_with fail
   refine Calls.mono HR.out ?_
   rintro e w2 ⟨g,cp,rfl,q1,q2⟩
   have NX:=hid (And.intro q1 q2)
   clear q1 q2 HR hc0
   go_wp2_with fail
   go_roundw
   case rel=>exact⟨q+1,by omega,by go_num,NX.out.1,NX.out.2⟩
   case measure=>simp[intOf];omega
  ·have hqn':¬(q:Int)<(PN:Int):=by omega
   have hqe:q=PN:=by omega
   subst hqe
   have FN:=hid (FIN.out wo Y' hS hG hB)
   clear hS hG hB FIN HC
   go_wp2
   exact FN.out
def lpg (r sz lf q:Nat):List Int:=if q=0 then splice (spgZ r 0) 21 (sheadZ sz lf) else spgZ r q
def layL (L:Nat->Option (List Int)) (f r sz lf:Nat):Nat->Nat->Option (List Int)
 | 0=>L
 | q+1=>putL (layL L f r sz lf q) (f+q) (lpg r sz lf q)
theorem layL_apply(L:Nat->Option (List Int))(f r sz lf q y:Nat):layL L f r sz lf q y=if f<=y/\y<f+q then some (lpg r sz lf (y-f)) else L y:=by
 induction q with
 | zero=>
  rw[if_neg (by omega)]
  rfl
 | succ q ih=>
  unfold layL putL
  by_cases hy:y=f+q
  ·rw[if_pos hy,if_pos (by omega),hy,Nat.add_sub_cancel_left]
  ·rw[if_neg hy,ih]
   by_cases h1:f<=y/\y<f+q
   ·rw[if_pos h1,if_pos (by omega)]
   ·rw[if_neg h1,if_neg (by omega)]
theorem length_spgZ(r n:Nat):(spgZ r n).length=512:=by
 unfold spgZ splice zeros
 simp only[List.length_append,List.length_take,List.length_drop,length_hdgZ,List.length_replicate]
 omega
theorem isB_spgZ(r n:Nat):Pl.isB (spgZ r n):=isB_splice (isB_zeros' _) (isB_hdgZ r n) _
theorem isB_sheadZ(sz lf:Nat):Pl.isB (sheadZ sz lf):=isB_packZ _
theorem Opn.lay(h:Opn Y w F K N C t L Ms n)(f r sz lf:Nat)(hr:r<=262144)(hsz:sz<=262144)(hlf:lf<=1099511627775)(hK:K+pagesN r<4611686018427387904)(hn:n+2 * pagesN r<=1073741823)(h1:64<=f)(h2:f+pagesN r<=F.nb) :
  Calls Tryz.prog 49 #[.agg #[.int .i64 (f:Int),.int .i64 (r:Int)],.pointer (some ⟨t,0,none⟩),.agg #[.int .i64 (sz:Int),.int .i64 (lf:Int)]] w fun e w'=>∃Y',e=.returned (.int .i64 0)/\Opn Y' w' F (K+pagesN r) N C t (layL L f r sz lf (pagesN r)) Ms (n+2 * pagesN r)/\Gr Y Y' w/\But Y w w':=by
 obtain⟨PO,hPO⟩:∃PO:Ending->World->Prop,PO=fun e w'=>∃Y',e=.returned (.int .i64 0)/\Opn Y' w' F (K+pagesN r) N C t (layL L f r sz lf (pagesN r)) Ms (n+2 * pagesN r)/\Gr Y Y' w/\But Y w w':=⟨_,rfl⟩
 rw[<- hPO]
 obtain⟨w0,hw0⟩:∃w0,w0=(w.alloc (.cells #[.int .i64 (f:Int),.int .i64 (r:Int)] 92)).alloc (.cells #[.int .i64 (sz:Int),.int .i64 (lf:Int)] 99):=⟨_,rfl⟩
 have z0:w0.heap.size=w.heap.size+2:=by rw[hw0];simp
 have b0:Below w.heap.size w w0:=by rw[hw0];exact ((Below.refl _ _).alloc (Nat.le_refl _) _).alloc (by simp) _
 have hblk:w0.heap[w.heap.size]?=some (.cells #[.int .i64 (f:Int),.int .i64 (r:Int)] 92 (0,0)):=by
  rw[hw0]
  exact (((Below.refl _ (w.alloc (.cells #[.int .i64 (f:Int),.int .i64 (r:Int)] 92))).alloc (Nat.le_refl _) _).block w.heap.size (by simp)).trans Array.getElem?_push_size
 have hblk2:w0.heap[w.heap.size+1]?=some (.cells #[.int .i64 (sz:Int),.int .i64 (lf:Int)] 99 (0,0)):=by
  rw[hw0]
  exact heap_alloc2_new _ _ _
 have hlt:=h.lt
 have hnb:=h.nb
 have hpg:=pagesN_le hr
 have HC:Hid (∀wr,But Y w0 wr->(wr.cell? ⟨w.heap.size,0,none⟩=some (.int .i64 (f:Int))/\wr.cell? ⟨w.heap.size,1,none⟩=some (.int .i64 (r:Int)))/\(wr.cell? ⟨w.heap.size+1,0,none⟩=some (.int .i64 (sz:Int))/\wr.cell? ⟨w.heap.size+1,1,none⟩=some (.int .i64 (lf:Int)))):=fun wr b=>by
  have hb2:=(b.block w.heap.size (by omega) (fun q=>by have:=hlt _ q;omega)).trans hblk
  have hb3:=(b.block (w.heap.size+1) (by omega) (fun q=>by have:=hlt _ q;omega)).trans hblk2
  exact⟨⟨by simp[World.cell?,hb2],by simp[World.cell?,hb2]⟩,⟨by simp[World.cell?,hb3],by simp[World.cell?,hb3]⟩⟩
 have FIN:Hid (∀wr Y',Opn Y' wr F (K+pagesN r) N C t (layL L f r sz lf (pagesN r)) Ms (n+2 * pagesN r)->Gr Y Y' w0->But Y w0 wr->PO (.returned (.int .i64 0)) wr):=fun wr Y' q1 q2 q3=>by
  rw[hPO]
  exact⟨Y',rfl,q1,fun k hk q=>q2 k (by omega) q,(But.of_below b0 (X:=Y)).trans q3⟩
 have HS:Hid (Opn Y w0 F (K+0) N C t (layL L f r sz lf 0) Ms (n+2 * 0)):=h.below b0
 have HP:=hid (pages_any (f:Int) r hr w0)
 obtain⟨⟨k0,k1⟩,⟨k2,k3⟩⟩:=HC.out w0 (But.refl _ _)
 have HW:=hid hw0
 generalize pagesN r=PN at *
 clear hw0 b0 hblk hblk2 hPO h hlt z0
 go_enter Tryz.func49,Tryz.ntmps49
 go_wp2_with fail
 rw[<- HW.out]
 go_wp2_with fail
 refine Calls.mono HP.out ?_
 rintro e w1 ⟨rfl,b1⟩
 have B1:=hid b1
 have HS1:=hid (HS.out.below b1)
 clear b1 HP HS k0 k1 k2 k3 HW
 go_wp2_with fail
 go_loopw [12] (fun iv wr=>∃q:Nat,q<=PN/\iv=.int .i64 (q:Int)/\(∃Y',Opn Y' wr F (K+q) N C t (layL L f r sz lf q) Ms (n+2 * q)/\Gr Y Y' w0)/\But Y w0 wr) (fun iv _=>PN-(intOf iv).toNat)
 case atStart=>exact⟨0,Nat.zero_le _,rfl,⟨Y,HS1.out,Gr.refl _ _⟩,But.of_below B1.out⟩
 case round=>
  clear HS1 B1
  rename World=>wo
  obtain⟨q,hq,rfl,⟨Y',hS,hG⟩,hB⟩:=hrel
  by_cases hqn:q<PN
  ·have hqn':(q:Int)<(PN:Int):=by omega
   have HB:=hid (sblank_any (r:=r) (n:=q) (f:Int) hr (by omega) wo)
   have hlt':=hS.lt
   have HWR:Hid (∀w3 g,wo.heap.size<=g->Own w3 g 512 512 (lpg r sz lf q)->Pl.isB (lpg r sz lf q)->But (fun k=>wo.heap.size<=k) wo w3->Calls Tryz.prog 52 #[.pointer (some ⟨t,0,none⟩),.int .i64 ((f:Int)+(q:Int)),.slice (some ⟨g,0,none⟩) 512 512] w3 fun e w'=>e=.returned (.int .i64 0)/\(∃Y',Opn Y' w' F (K+(q+1)) N C t (layL L f r sz lf (q+1)) Ms (n+2 * (q+1))/\Gr Y Y' w0)/\But Y w0 w'):=fun w3 g hg hO hb hb3=>by
    rw[show ((f:Int)+(q:Int))=((f+q:Nat):Int) by omega]
    have hS3:=hS.keep hb3 (fun k hk e _=>by omega)
    refine Calls.mono (hS3.write (by omega) (by omega) (f+q) (by omega) (by omega) (some ⟨g,0,none⟩) 512 _ (hO.rdn hb (fun e=>by have:=hlt' _ e;omega))) ?_
    rintro e w2 ⟨Y2,rfl,r1,r2,r3⟩
    have hs:=hB.size
    have hs3:=hb3.size
    have b03:But Y w0 w3:=hB.comp hb3 (fun k hk e=>by omega)
    exact⟨rfl,⟨Y2,r1,hG.trans r2 (by omega)⟩,b03.comp r3 hG⟩
   have hc0:=HC.out wo hB
   have HC2:Hid (∀w3,But (fun k=>wo.heap.size<=k) wo w3->(w3.cell? ⟨w.heap.size,0,none⟩=some (.int .i64 (f:Int))/\w3.cell? ⟨w.heap.size,1,none⟩=some (.int .i64 (r:Int)))/\(w3.cell? ⟨w.heap.size+1,0,none⟩=some (.int .i64 (sz:Int))/\w3.cell? ⟨w.heap.size+1,1,none⟩=some (.int .i64 (lf:Int)))):=fun w3 b=>HC.out w3 (hB.comp b (fun k hk e=>by have:=hB.size;omega))
   obtain⟨⟨c0,c1⟩,_⟩:=hc0
   clear hS hG hB hlt'
   go_wp2_with fail
   refine Calls.mono HB.out ?_
   rintro e w2 ⟨g,rfl,hg,hk,b2⟩
   have hB2:But (fun k=>wo.heap.size<=k) wo w2:=But.of_below b2
   have hO2:Own w2 g 512 512 (spgZ r q):=Own.of_blk hk (length_spgZ r q) (by decide)
   obtain⟨⟨d0,d1⟩,⟨d2,d3⟩⟩:=HC2.out w2 hB2
   clear hk b2 HB c0 c1
   by_cases hq0:q=0
   ·subst hq0
    have HPT:Hid (Calls Tryz.prog 92 #[.agg #[.int .i64 (sz:Int),.int .i64 (lf:Int)],.slice (some ⟨g,0,none⟩) 512 512] w2 fun e w3=>e=.returned (.tuple #[])/\w3.cell? ⟨w.heap.size,0,none⟩=some (.int .i64 (f:Int))/\Calls Tryz.prog 52 #[.pointer (some ⟨t,0,none⟩),.int .i64 ((f:Int)+((0:Nat):Int)),.slice (some ⟨g,0,none⟩) 512 512] w3 fun e w'=>e=.returned (.int .i64 0)/\(∃Y',Opn Y' w' F (K+(0+1)) N C t (layL L f r sz lf (0+1)) Ms (n+2 * (0+1))/\Gr Y Y' w0)/\But Y w0 w'):=by
     refine Calls.mono (hput_any hsz hlf hO2) ?_
     rintro e w3 ⟨rfl,hO3,hB3⟩
     have b3:But (fun k=>wo.heap.size<=k) wo w3:=hB2.comp hB3 (fun k hk e=>by omega)
     exact⟨rfl,(HC2.out w3 b3).1.1,HWR.out w3 g hg hO3 (isB_splice (isB_spgZ r 0) (isB_sheadZ sz lf) _) b3⟩
    clear hO2 hB2 HWR HC2 d0 d1
    go_wp2_with fail
    refine Calls.mono HPT.out ?_
    rintro e w3 ⟨rfl,d4,hW⟩
    have HW2:=hid hW
    clear hW HPT d2 d3
    go_wp2_with fail
    refine Calls.mono HW2.out ?_
    rintro e w4 ⟨rfl,q1,q2⟩
    have NX:=hid (And.intro q1 q2)
    clear q1 q2 HW2 d4
    go_wp2_with fail
    go_roundw
    case rel=>exact⟨0+1,by omega,by go_num,NX.out.1,NX.out.2⟩
    case measure=>simp[intOf];omega
   ·have hq0':¬(q:Int)=0:=by omega
    have e1:spgZ r q=lpg r sz lf q:=by unfold lpg;rw[if_neg hq0]
    have HW2:=hid (HWR.out w2 g hg (e1 ▸ hO2) (e1 ▸ isB_spgZ r q) hB2)
    clear hO2 hB2 HWR HC2 d1 d2 d3 e1
    go_wp2_with fail
    refine Calls.mono HW2.out ?_
    rintro e w4 ⟨rfl,q1,q2⟩
    have NX:=hid (And.intro q1 q2)
    clear q1 q2 HW2 d0
    go_wp2_with fail
    go_roundw
    case rel=>exact⟨q+1,by omega,by go_num,NX.out.1,NX.out.2⟩
    case measure=>simp[intOf];omega
  ·have hqn':¬(q:Int)<(PN:Int):=by omega
   have hqe:q=PN:=by omega
   subst hqe
   have FN:=hid (FIN.out wo Y' hS hG hB)
   clear hS hG hB FIN HC
   go_wp2
   exact FN.out
open Go.RowKit Go.Deep
def cpg (b:Bool) (r m:Nat) (zs:List Int):List Int:=if isPg r m zs && b then zs else spgZ r m
def PcP (Y:Nat->Prop) (w:World) (zs:List Int) (X:(Nat->Prop)->World->Prop) (e:Ending) (w':World):Prop :=
 ∃g cp Y',e=.returned (.tuple #[.slice (some ⟨g,0,none⟩) 512 cp,.int .i64 0])/\X Y' w'/\w.heap.size<=g/\Own w' g 512 cp zs/\Pl.isB zs/\¬Y' g/\Gr Y Y' w/\But Y w w'
theorem Opn.pageC(h:Opn Y w F K N C t L Ms n)(hK:K<4611686018427387904)(b:Bool)(f r m:Nat)(h1:r<=262144)(h2:m<=1024)(hy1:64<=f+m)(hy2:f+m<F.nb) :
  Calls Tryz.prog 87 #[.agg #[.int .i64 (f:Int),.int .i64 (r:Int)],.iface 164 (.agg #[.pointer (some ⟨F.st,0,none⟩),.bool b]),.int .i64 (m:Int)] w (PcP Y w (cpg b r m (C (f+m))) (fun Y' w'=>Opn Y' w' F (K+1) N C t L Ms n)):=by
 obtain⟨zs,hzs⟩:∃zs,zs=C (f+m):=⟨_,rfl⟩
 rw[<- hzs]
 obtain⟨PO,hPO⟩:∃PO:Ending->World->Prop,PO=PcP Y w (cpg b r m zs) (fun Y' w'=>Opn Y' w' F (K+1) N C t L Ms n):=⟨_,rfl⟩
 rw[<- hPO]
 obtain⟨w0,hw0⟩:∃w0,w0=w.alloc (.cells #[.int .i64 (f:Int),.int .i64 (r:Int)] 92):=⟨_,rfl⟩
 have z0:w0.heap.size=w.heap.size+1:=by rw[hw0];simp
 have b0:Below w.heap.size w w0:=by rw[hw0];exact (Below.refl _ _).alloc (Nat.le_refl _) _
 have hblk:w0.heap[w.heap.size]?=some (.cells #[.int .i64 (f:Int),.int .i64 (r:Int)] 92 (0,0)):=by rw[hw0];exact Array.getElem?_push_size
 have hlt:=h.lt
 have hnb:=h.nb
 have HR:Hid (Calls Tryz.prog 30 #[.pointer (some ⟨F.st,0,none⟩),.int .i64 ((f:Int)+(m:Int))] w0 fun e w2=>∃G cap,e=.returned (.tuple #[.slice (some ⟨G,0,none⟩) 512 cap,.int .i64 0])/\(w2.cell? ⟨w.heap.size,0,none⟩=some (.int .i64 (f:Int))/\w2.cell? ⟨w.heap.size,1,none⟩=some (.int .i64 (r:Int)))/\Calls Tryz.prog 140 #[.agg #[.int .i64 (f:Int),.int .i64 (r:Int)],.slice (some ⟨G,0,none⟩) 512 cap,.int .i64 (m:Int)] w2 fun e w3=>e=.returned (.bool (isPg r m zs))/\∀w4,w4=w3.alloc (.cells #[.pointer (some ⟨F.st,0,none⟩),.bool b] 164)->((isPg r m zs && b)=true->PO (.returned (.tuple #[.slice (some ⟨G,0,none⟩) 512 cap,.int .i64 0])) w4)/\((isPg r m zs && b)=false->(w4.cell? ⟨w.heap.size,0,none⟩=some (.int .i64 (f:Int))/\w4.cell? ⟨w.heap.size,1,none⟩=some (.int .i64 (r:Int)))/\Calls Tryz.prog 91 #[.agg #[.int .i64 (f:Int),.int .i64 (r:Int)],.int .i64 (m:Int)] w4 fun e w5=>∃g,e=.returned (.slice (some ⟨g,0,none⟩) 512 512)/\PO (.returned (.tuple #[.slice (some ⟨g,0,none⟩) 512 512,.int .i64 0])) w5)):=by
  rw[show ((f:Int)+(m:Int))=((f+m:Nat):Int) by omega]
  refine Calls.mono ((h.below b0).sread hK (f+m) hy1 hy2) ?_
  rintro e w2 ⟨g,cp,Y',rfl,r1,r2,r3,r4,r5,r6,r7⟩
  rw[<- hzs]at r3 r4
  have hs2:=r7.size
  have hb2:=(r7.block w.heap.size (by omega) (fun q=>by have:=hlt _ q;omega)).trans hblk
  refine⟨g,cp,rfl,⟨by simp[World.cell?,hb2],by simp[World.cell?,hb2]⟩,Calls.mono (isPage_any (f:Int) h1 h2 r3 r4) ?_⟩
  rintro e w3 ⟨rfl,b3⟩
  refine⟨rfl,fun w4 hw4=>?_⟩
  have b4:Below w3.heap.size w3 w4:=by rw[hw4];exact (Below.refl _ _).alloc (Nat.le_refl _) _
  have b24:Below w2.heap.size w2 w4:=b3.trans (b4.mono b3.size)
  have gg:Gr Y Y' w:=fun k hk q=>r6 k (by omega) q
  have bb:But Y w w4:=((But.of_below b0 (X:=Y)).trans r7).comp (But.of_below b24 (X:=fun _=>False)) (fun _ _ q=>q.elim)
  have hl':=r1.lt
  refine⟨fun q=>?_,fun q=>?_⟩
  ·rw[hPO]
   have hc:cpg b r m zs=zs:=by unfold cpg;rw[if_pos q]
   rw[hc]
   exact⟨g,cp,Y',rfl,r1.below b24,by omega,r3.keep (b24.block g r3.lt),r4,r5,gg,bb⟩
  ·have hc:cpg b r m zs=spgZ r m:=by unfold cpg;rw[if_neg (by rw[q];decide)]
   have hb4:=(b24.block w.heap.size (by omega)).trans hb2
   refine⟨⟨by simp[World.cell?,hb4],by simp[World.cell?,hb4]⟩,Calls.mono (sblank_any (r:=r) (n:=m) (f:Int) h1 h2 w4) ?_⟩
   rintro e w5 ⟨g5,rfl,hg5,hk5,b5⟩
   have s4:=b24.size
   have s0:=b0.size
   refine⟨g5,rfl,?_⟩
   rw[hPO,hc]
   exact⟨g5,512,Y',rfl,(r1.below b24).below b5,by omega,Own.of_blk hk5 (length_spgZ r m) (by decide),isB_spgZ r m,fun q=>(by have:=hl' _ q;omega),gg,bb.comp (But.of_below b5 (X:=fun _=>False)) (fun _ _ q=>q.elim)⟩
 have HW:=hid hw0
 have k0:w0.cell? ⟨w.heap.size,0,none⟩=some (.int .i64 (f:Int)):=by simp[World.cell?,hblk]
 clear hw0 b0 z0 hblk hPO h hzs hlt
 go_enter Tryz.func87,Tryz.ntmps87
 go_wp2_with (rw[readCm])
 rw[<- HW.out]
 refine Calls.mono HR.out ?_
 rintro e w2 ⟨G,cap,rfl,⟨c0,c1⟩,h3⟩
 have H3:=hid h3
 clear h3 HR k0 HW
 go_wp2_with fail
 refine Calls.mono H3.out ?_
 rintro e w3 ⟨rfl,h4⟩
 obtain⟨q1,q2⟩:=h4 _ rfl
 have Q1:=hid q1
 have Q2:=hid q2
 clear h4 H3 c0 c1 q1 q2
 have ta1:=fun u=>ta_comC F.st b u
 generalize isPg r m zs=bb at *
 cases bb with
 | true=>
  cases b with
  | true=>
   have FIN:=hid (Q1.out rfl)
   clear Q1 Q2
   go_wp2
   exact FIN.out
  | false=>
   obtain⟨⟨c0,c1⟩,h5⟩:=Q2.out rfl
   have H5:=hid h5
   clear Q1 Q2 h5
   go_wp2_with fail
   refine Calls.mono H5.out ?_
   rintro e w5 ⟨g,rfl,q⟩
   have FIN:=hid q
   clear q H5
   go_wp2
   exact FIN.out
 | false=>
  obtain⟨⟨c0,c1⟩,h5⟩:=Q2.out rfl
  have H5:=hid h5
  clear Q1 Q2 h5
  go_wp2_with fail
  refine Calls.mono H5.out ?_
  rintro e w5 ⟨g,rfl,q⟩
  have FIN:=hid q
  clear q H5
  go_wp2
  exact FIN.out
end Go.Proofs.YtlefjidbpjkhlaaGreat
