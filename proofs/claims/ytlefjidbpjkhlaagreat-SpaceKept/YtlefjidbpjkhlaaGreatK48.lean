import Derived.Test.YtlefjidbpjkhlaaGreatK47
set_option maxRecDepth 100000
set_option maxHeartbeats 16000000
namespace Go.Proofs.YtlefjidbpjkhlaaGreat
variable {C:Nat->List Int}
variable {L:Nat->Option (List Int)}
variable {K M N c f lo o p r sz t x:Nat}
variable {cs ct:Nat->Int}
variable {X Y Z:Nat->Prop}
variable {w:World}
variable {F:Cf}
variable {Ms:List (Nat->Option (List Int))}
variable {img:List Int}
variable {fu:Int}
variable {off:Bool}
variable {d:Pd}
variable {s:Js}
variable {Ts:List Tn}
variable {PO:Ending->World->Prop}
open Go.RowKit Go.Deep
attribute [local go_sem] Oper.semAt_some
theorem Tst.grow{nb:Nat}(h:Tst C L f r nb M sz cs ct)(hc:sz<c/\c<=r):Tst C (putL L f (splice (spgA C L f 0) 21 (sheadZ c (tlf C L f).toNat))) f r nb M c cs ct:=by
 have hp0:=h.hP.p0
 have hz:0<pagesN r:=by unfold pagesN;omega
 have hl:=lfOf_bd (h.hP.isb 0 hz)
 have hr:=h.hP.hr
 have hsz:=h.sz1
 have hss:=h.sz
 have E:∀j,spgA C (putL L f (splice (spgA C L f 0) 21 (sheadZ c (tlf C L f).toNat))) f j=if j=0 then splice (spgA C L f 0) 21 (sheadZ c (tlf C L f).toNat) else spgA C L f j:=fun j=>spgA_put C L f 0 _ j
 have len0:=h.hP.len 0 hz
 have ol:21+(sheadZ c (tlf C L f).toNat).length<=(spgA C L f 0).length:=by rw[length_sheadZ,len0];omega
 have hT:tlf C L f=lfOf (spgA C L f 0):=rfl
 have e1:szOf (splice (spgA C L f 0) 21 (sheadZ c (tlf C L f).toNat))=(c:Int):=szOf_head len0 (by omega)
 have e2:lfOf (splice (spgA C L f 0) 21 (sheadZ c (tlf C L f).toNat))=lfOf (spgA C L f 0):=by rw[lfOf_head len0 (by omega),hT];omega
 generalize hP':spgA C (putL L f (splice (spgA C L f 0) 21 (sheadZ c (tlf C L f).toNat))) f=P' at *
 have E0:P' 0=splice (spgA C L f 0) 21 (sheadZ c (tlf C L f).toNat):=by rw[E,if_pos rfl]
 have Ec:∀j,j≠0->P' j=spgA C L f j:=fun j hj=>by rw[E,if_neg hj]
 have Ei:∀j i,tknZ (P' j) i=tknZ (spgA C L f j) i/\trnZ (P' j) i=trnZ (spgA C L f j) i:=fun j i=>by
  by_cases e:j=0
  ·rw[e,E0,tkn_splice ol (by rw[length_sheadZ];omega),trn_splice ol (by rw[length_sheadZ];omega)]
   exact⟨rfl,rfl⟩
  ·rw[Ec j e]
   exact⟨rfl,rfl⟩
 have Ek:∀k,P' (indexN r+k)=spgA C L f (indexN r+k):=fun k=>Ec _ (by omega)
 have A:PgO r P' M/\RelO r P' (fun j=>C (f+j))/\szOf (P' 0)=(c:Int)/\∀b,1<=b->b<=r->cnP r P' b=cs b:=by
  refine⟨⟨hr,fun j hj=>?_,fun j hj=>?_,fun j hj=>?_,?_,fun k hk=>?_,fun k i hk hi hq=>?_,fun hl k hk=>?_,fun k hk ht=>?_,fun k hk=>?_⟩,fun k hk he i hi=>?_,?_,fun b q1 q2=>?_⟩
  ·rw[E];split
   ·rw[len_splice ol,len0]
   ·exact h.hP.len j hj
  ·rw[E];split
   ·exact isB_splice (h.hP.isb 0 hz) (isB_sheadZ _ _) _
   ·exact h.hP.isb j hj
  ·rw[E];split
   ·rename_i e
    rw[e]
    exact isPg_splice (h.hP.pg 0 hz) (by omega)
   ·exact h.hP.pg j hj
  ·rw[E0,e1]
   omega
  ·rw[(Ei _ _).1,Ek]
   exact h.hP.tk k hk
  ·rw[E0,e1]at hq
   rw[Ek]
   exact h.hP.bey k i hk hi (by omega)
  ·rw[E0,e2]at hl
   rw[(Ei _ _).2]
   exact h.hP.unb hl k hk
  ·rw[(Ei _ _).2]at ht
   rw[Ek]
   exact h.hP.tr0 k hk ht
  ·rw[(Ei _ _).2]
   exact h.hP.trM k hk
  ·rw[(Ei _ _).2]at he
   rw[Ek]
   exact h.hR k hk he i hi
  ·rw[E0,e1]
  ·rw[<- h.cs b q1 q2]
   unfold cnP
   rw[Ek]
 rw[<- hP']at A
 exact⟨A.1,h.hQ,A.2.1,h.f1,h.f2,A.2.2.1,A.2.2.2,h.ct⟩
theorem Tst.format{nb:Nat}(h:Tst C L f r nb M sz cs ct)(hc:1<=c/\c<=r):Tst C (layL L f r c 0 (pagesN r)) f r nb M c (fun _=>0) ct:=by
 have hz:0<pagesN r:=by have:=h.hP.p0;unfold pagesN;omega
 have hr:=h.hP.hr
 have he:∀j,j<pagesN r->spgA C (layL L f r c 0 (pagesN r)) f j=lpg r c 0 j:=fun j hj=>by
  unfold spgA
  rw[layL_apply,if_pos (by omega),Nat.add_sub_cancel_left]
  rfl
 have p1:PgO r (spgA C (layL L f r c 0 (pagesN r)) f) M:=(PgO.lpg hr hc M).congr he
 refine⟨p1,h.hQ,fun k hk ht i hi=>?_,h.f1,h.f2,?_,fun b q1 q2=>?_,h.ct⟩
 ·have hk2:indexN r+k<pagesN r:=by unfold pagesN;omega
  rw[he _ (p1.ip hk)]at ht
  have h0:trnZ (lpg r c 0 (k / 60)) (k % 60)=0:=win_zero (fun t q=>getD_lpg (by omega))
  rw[h0]at ht
  rw[he _ hk2,getD_lpg (by omega)]
  have:=nzG_zero (h.hQ.tr0 k hk ht.symm) i hi
  exact⟨fun _=>this,fun _=>rfl⟩
 ·rw[he 0 hz]
  exact szOf_lpg (by omega)
 ·rw[cnP_congr he q1 q2,cnP_lpg]
theorem OpnZ.size{Z:Nat}(h:OpnZ Y w F Z N C t L Ms)(hsp:Spb w x f r F.st)(hx:¬Y x)(hZ:Z<16000000)(hT:Tst C L f r F.nb Z sz cs ct) :
  Calls Tryz.prog 19 #[.pointer (some ⟨x,0,none⟩),.pointer (some ⟨t,0,none⟩)] w fun e w'=>∃Y',e=.returned (.tuple #[.int .i64 (sz:Int),.int .i64 0])/\OpnZ Y' w' F (Z+1) N C t L Ms/\Gr Y Y' w/\But Y w w':=by
 obtain⟨K,n,h1,h2,h3⟩:=h
 have hsz:=hT.sz1
 have hT2:=hT.tbs
 have hp:=pagesN_lo hT2.hr.1
 have hf2:=hT2.f2
 refine Calls.mono (h3.size (by omega) hsp hx hT2.hr.2 hT2.f1 (by omega) (hT2.pg 0 (by omega)) hT2.s1.1 hT2.s1.2) ?_
 rintro e w' ⟨Y',rfl,q1,q2,q3⟩
 exact⟨Y',by rw[<- hT.sz];rfl,⟨K+1,n,by omega,by omega,q1⟩,q2,q3⟩
theorem OpnZ.ref{Z:Nat}(h:OpnZ Y w F Z N C t L Ms)(hsp:Spb w x f r F.st)(hx:¬Y x)(hZ:Z<16000000)(hT:Tst C L f r F.nb Z sz cs ct)(b:Nat)(hb:1<=b/\b<=sz) :
  Calls Tryz.prog 25 #[.pointer (some ⟨x,0,none⟩),.pointer (some ⟨t,0,none⟩),.int .i64 (b:Int)] w fun e w'=>∃Y' L' cs',((e=.returned (.int .i64 62)/\cs b=0/\cs'=cs)\/(e=.returned (.int .i64 63)/\250<=cs b/\cs'=cs)\/(e=.returned (.int .i64 0)/\(1<=cs b/\cs b<250)/\cs'=upd cs b (cs b+1)))/\OpnZ Y' w' F (Z+1) N C t L' Ms/\Tst C L' f r F.nb (Z+1) sz cs' ct/\(∀y,y<f\/f+pagesN r<=y->L' y=L y)/\Gr Y Y' w/\But Y w w':=by
 obtain⟨K,n,h1,h2,h3⟩:=h
 have hnb:=h3.nb
 have hsz:=hT.sz1
 have hcn:=hT.cn hb
 refine Calls.mono (h3.refT hsp hx (by omega) (by omega) hT.tbs (by omega) b (by rw[hsz.2.2];exact hb) hcn.2.2.2) ?_
 rintro e w' ⟨K',n',Y',rfl,r1,r2,r3,r4⟩
 rw[hcn.1]at r2 ⊢
 by_cases hz:cs b=0
 ·rw[if_pos hz]at r2 ⊢
  rw[if_neg (by decide)]at r2
  exact⟨Y',L,cs,.inl ⟨rfl,hz,rfl⟩,⟨K',n',by omega,by omega,r2⟩,hT.mono (by omega),fun _ _=>rfl,r3,r4⟩
 ·rw[if_neg hz]at r2 ⊢
  by_cases hm:250<=cs b
  ·rw[if_pos hm]at r2 ⊢
   rw[if_neg (by decide)]at r2
   exact⟨Y',L,cs,.inr (.inl ⟨rfl,hm,rfl⟩),⟨K',n',by omega,by omega,r2⟩,hT.mono (by omega),fun _ _=>rfl,r3,r4⟩
  ·rw[if_neg hm]at r2 ⊢
   rw[if_pos rfl,if_neg (by omega)]at r2
   have hT':=hT.chg (by omega:Z<281474976710655) hb (cnt:=cs b+1) (by omega)
   have hd:min (cs b+1) 1-min ((spgA C L f (indexN r+((b-1) / 480))).getD (32+((b-1) % 480)) 0) 1=0:=by rw[hcn.1];omega
   have e1:∀tk tr,chgL C L f r b (cs b+1) tk tr=chgL C L f r b (cs b+1) 0 0:=fun tk tr=>by
    unfold chgL
    rw[if_pos hd,if_pos hd]
   rw[e1]at hT'
   exact⟨Y',_,_,.inr (.inr ⟨rfl,by omega,rfl⟩),⟨K',n',by omega,by omega,r2⟩,hT',fun y hy=>chgL_else hb.1 (by omega) hy,r3,r4⟩
theorem OpnZ.grow{Z:Nat}(h:OpnZ Y w F Z N C t L Ms)(hsp:Spb w x f r F.st)(hx:¬Y x)(hZ:Z<16000000)(hT:Tst C L f r F.nb Z sz cs ct)(c:Nat)(hc:sz<c/\c<=r) :
  Calls Tryz.prog 27 #[.pointer (some ⟨x,0,none⟩),.pointer (some ⟨t,0,none⟩),.int .i64 (c:Int)] w fun e w'=>∃Y' L',e=.returned (.int .i64 0)/\OpnZ Y' w' F (Z+1) N C t L' Ms/\Tst C L' f r F.nb (Z+1) c cs ct/\(∀y,y<f\/f+pagesN r<=y->L' y=L y)/\Gr Y Y' w/\But Y w w':=by
 obtain⟨K,n,h1,h2,h3⟩:=h
 have hsz:=hT.sz1
 have hp:=pagesN_lo hT.hP.hr.1
 refine Calls.mono (h3.growT hsp hx (by omega) (by omega) hT.tbs c (by rw[hsz.2.2];exact hc) (hT.hP.isb 0 (by omega))) ?_
 rintro e w' ⟨Y',rfl,q1,q2,q3⟩
 refine⟨Y',_,rfl,⟨K+3,n+2,by omega,by omega,q1⟩,(hT.grow hc).mono (by omega),fun y hy=>?_,q2,q3⟩
 unfold putL
 rw[if_neg (by omega)]
theorem OpnZ.growN{Z:Nat}(h:OpnZ Y w F Z N C t L Ms)(hsp:Spb w x f r F.st)(hx:¬Y x)(hZ:Z<16000000)(hT:Tst C L f r F.nb Z sz cs ct)(c:Int)(hc:c<=(sz:Int)\/(r:Int)<c) :
  Calls Tryz.prog 27 #[.pointer (some ⟨x,0,none⟩),.pointer (some ⟨t,0,none⟩),.int .i64 c] w fun e w'=>∃Y',e=.returned (.int .i64 60)/\OpnZ Y' w' F (Z+1) N C t L Ms/\Gr Y Y' w/\But Y w w':=by
 refine poz fun PO hPO=>?_
 obtain⟨K,n,h1,h2,h3⟩:=h
 have hsz:=hT.sz1
 have hxl:=hsp.lt
 have HLK:=hid (h3.lookT hsp hx (by omega) hT.tbs)
 rw[hsz.2.2]at HLK
 have HF:Hid (∀Y1 w1 w2,Opn Y1 w1 F (K+1) N C t L Ms n->Gr Y Y1 w->But Y w w1->Below w1.heap.size w1 w2->PO (.returned (.int .i64 60)) w2):=fun Y1 w1 w2 k1 k2 k3 b12=>by
  rw[hPO]
  exact⟨Y1,rfl,⟨K+1,n,by omega,by omega,k1.below b12⟩,k2,k3.comp (But.of_below b12 (X:=fun _=>False)) (fun _ _ q=>q.elim)⟩
 have HS:Hid (∀w1,But Y w w1->x<w1.heap.size/\w1.cell? ⟨x,0,none⟩=some (.int .i64 (f:Int))/\w1.cell? ⟨x,1,none⟩=some (.int .i64 (r:Int))):=fun w1 k3=>by
  have:=hsp.keep (k3.block x hxl hx)
  exact⟨this.lt,this.cell 0,this.cell 1⟩
 clear hPO h1 h2 h3 hsp hx hT hsz hZ hxl
 generalize tlf C L f=lv at *
 go_enter Tryz.func27,Tryz.ntmps27
 go_wp2_with fail
 refine Calls.mono HLK.out ?_
 rintro e w1 ⟨Y1,rfl,k1,k2,k3⟩
 have HC:=hid (fun w2 b12=>HF.out Y1 w1 w2 k1 k2 k3 b12)
 obtain⟨xl,x0,x1⟩:=HS.out w1 k3
 obtain⟨w2,hw2⟩:∃w2,w2=w1.alloc (.cells #[.pointer (some ⟨x,0,none⟩),.int .i64 (sz:Int),.int .i64 lv,.pointer (some ⟨t,0,none⟩)] 103):=⟨_,rfl⟩
 have bA:Below w1.heap.size w1 w2:=by rw[hw2];exact (Below.refl _ _).alloc (Nat.le_refl _) _
 have x0':=(bA.cell (p:=⟨x,0,none⟩) xl).trans x0
 have x1':=(bA.cell (p:=⟨x,1,none⟩) xl).trans x1
 have v0:w2.cell? ⟨w1.heap.size,0,none⟩=some (.pointer (some ⟨x,0,none⟩)):=by rw[hw2];exact cell_new rfl 0 _ rfl
 have v1:w2.cell? ⟨w1.heap.size,1,none⟩=some (.int .i64 (sz:Int)):=by rw[hw2];exact cell_new rfl 1 _ rfl
 have BA:=hid bA
 by_cases hcs:c<=(sz:Int)
 ·clear k1 k2 k3 HF HLK x0 x1 xl HS bA
  go_wp2_with fail
  rw[<- hw2]
  clear hw2
  go_wp2
  exact HC.out w2 BA.out
 ·have hcr:(r:Int)<c:=by omega
  subst hw2
  clear k1 k2 k3 HF HLK x0 x1 xl HS bA v0 v1
  go_wp2
  exact HC.out _ BA.out
theorem OpnZ.refN{Z:Nat}(h:OpnZ Y w F Z N C t L Ms)(hsp:Spb w x f r F.st)(hx:¬Y x)(hZ:Z<16000000)(hT:Tst C L f r F.nb Z sz cs ct)(b:Int)(hb:¬(1<=b/\b<=(sz:Int))) :
  Calls Tryz.prog 25 #[.pointer (some ⟨x,0,none⟩),.pointer (some ⟨t,0,none⟩),.int .i64 b] w fun e w'=>∃Y',e=.returned (.int .i64 61)/\OpnZ Y' w' F (Z+1) N C t L Ms/\Gr Y Y' w/\But Y w w':=by
 refine poz fun PO hPO=>?_
 obtain⟨K,n,h1,h2,h3⟩:=h
 have hsz:=hT.sz1
 have HLK:=hid (h3.lookT hsp hx (by omega) hT.tbs)
 have HCF:Hid (∀Y1 w1,Opn Y1 w1 F (K+1) N C t L Ms n->Gr Y Y1 w->But Y w w1->Calls Tryz.prog 54 #[.agg #[.pointer (some ⟨x,0,none⟩),.int .i64 (tsz C L f:Int),.int .i64 (tlf C L f),.pointer (some ⟨t,0,none⟩)],.int .i64 b,.func (.func 56) #[] #[]] (w1.alloc (.cells #[.pointer (some ⟨x,0,none⟩),.int .i64 (tsz C L f:Int),.int .i64 (tlf C L f),.pointer (some ⟨t,0,none⟩)] 103)) fun e w2=>e=.returned (.int .i64 61)/\PO (.returned (.int .i64 61)) w2):=fun Y1 w1 k1 k2 k3=>by
  have bA:Below w1.heap.size w1 (w1.alloc (.cells #[.pointer (some ⟨x,0,none⟩),.int .i64 (tsz C L f:Int),.int .i64 (tlf C L f),.pointer (some ⟨t,0,none⟩)] 103)):=(Below.refl _ _).alloc (Nat.le_refl _) _
  refine Calls.mono (change_none _ (by rw[hsz.2.2];exact hb)) ?_
  rintro e w2 ⟨rfl,b2⟩
  refine⟨rfl,?_⟩
  have b12:Below w1.heap.size w1 w2:=bA.trans (b2.mono bA.size)
  rw[hPO]
  exact⟨Y1,rfl,⟨K+1,n,by omega,by omega,k1.below b12⟩,k2,k3.comp (But.of_below b12 (X:=fun _=>False)) (fun _ _ q=>q.elim)⟩
 clear hPO h1 h2 h3 hsp hx hT hsz hb hZ
 generalize (tsz C L f:Int)=sv at *
 generalize tlf C L f=lv at *
 go_enter Tryz.func25,Tryz.ntmps25
 go_wp2_with fail
 refine Calls.mono HLK.out ?_
 rintro e w1 ⟨Y1,rfl,k1,k2,k3⟩
 have HC:=hid (HCF.out Y1 w1 k1 k2 k3)
 clear k1 k2 k3 HCF HLK
 go_wp2_with fail
 refine Calls.mono HC.out ?_
 rintro e w2 ⟨rfl,hp⟩
 have HP:=hid hp
 clear hp HC
 go_wp2_with fail
 exact HP.out
theorem OpnZ.unrefN{Z:Nat}(h:OpnZ Y w F Z N C t L Ms)(hsp:Spb w x f r F.st)(hx:¬Y x)(hZ:Z<16000000)(hT:Tst C L f r F.nb Z sz cs ct)(b:Int)(hb:¬(1<=b/\b<=(sz:Int))) :
  Calls Tryz.prog 26 #[.pointer (some ⟨x,0,none⟩),.pointer (some ⟨t,0,none⟩),.int .i64 b] w fun e w'=>∃Y',e=.returned (.tuple #[.int .i64 0,.int .i64 61])/\OpnZ Y' w' F (Z+1) N C t L Ms/\Gr Y Y' w/\But Y w w':=by
 refine poz fun PO hPO=>?_
 obtain⟨K,n,h1,h2,h3⟩:=h
 have hsz:=hT.sz1
 have HLK:=hid (h3.lookT hsp hx (by omega) hT.tbs)
 have HCF:Hid (∀Y1 w1,Opn Y1 w1 F (K+1) N C t L Ms n->Gr Y Y1 w->But Y w w1->Calls Tryz.prog 54 #[.agg #[.pointer (some ⟨x,0,none⟩),.int .i64 (tsz C L f:Int),.int .i64 (tlf C L f),.pointer (some ⟨t,0,none⟩)],.int .i64 b,.func (.func 57) #[] #[.pointer (some ⟨(w1.heap.size+1),0,none⟩)]] ((w1.alloc (.cells #[.pointer (some ⟨x,0,none⟩),.int .i64 (tsz C L f:Int),.int .i64 (tlf C L f),.pointer (some ⟨t,0,none⟩)] 103)).alloc (.cells #[.int .i64 0] 3)) fun e w2=>e=.returned (.int .i64 61)/\PO (.returned (.tuple #[.int .i64 0,.int .i64 61])) w2):=fun Y1 w1 k1 k2 k3=>by
  have bA:Below w1.heap.size w1 ((w1.alloc (.cells #[.pointer (some ⟨x,0,none⟩),.int .i64 (tsz C L f:Int),.int .i64 (tlf C L f),.pointer (some ⟨t,0,none⟩)] 103)).alloc (.cells #[.int .i64 0] 3)):=((Below.refl _ _).alloc (Nat.le_refl _) _).alloc (by simp) _
  refine Calls.mono (change_none _ (by rw[hsz.2.2];exact hb)) ?_
  rintro e w2 ⟨rfl,b2⟩
  refine⟨rfl,?_⟩
  have b12:Below w1.heap.size w1 w2:=bA.trans (b2.mono bA.size)
  rw[hPO]
  exact⟨Y1,rfl,⟨K+1,n,by omega,by omega,k1.below b12⟩,k2,k3.comp (But.of_below b12 (X:=fun _=>False)) (fun _ _ q=>q.elim)⟩
 clear hPO h1 h2 h3 hsp hx hT hsz hb hZ
 generalize (tsz C L f:Int)=sv at *
 generalize tlf C L f=lv at *
 go_enter Tryz.func26,Tryz.ntmps26
 go_wp2_with fail
 refine Calls.mono HLK.out ?_
 rintro e w1 ⟨Y1,rfl,k1,k2,k3⟩
 have HC:=hid (HCF.out Y1 w1 k1 k2 k3)
 clear k1 k2 k3 HCF HLK
 go_wp2_with fail
 refine Calls.mono HC.out ?_
 rintro e w2 ⟨rfl,hp⟩
 have HP:=hid hp
 clear hp HC
 go_wp2_with fail
 exact HP.out
theorem OpnZ.format{Z:Nat}(h:OpnZ Y w F Z N C t L Ms)(hZ:Z<16000000)(hT:Tst C L f r F.nb Z sz cs ct)(hr:pagesN r<=28)(c:Nat)(hc:1<=c/\c<=r) :
  Calls Tryz.prog 18 #[.pointer (some ⟨t,0,none⟩),.int .i64 (f:Int),.int .i64 (r:Int),.int .i64 (c:Int)] w fun e w'=>∃Y' L',e=.returned (.int .i64 0)/\OpnZ Y' w' F (Z+1) N C t L' Ms/\Tst C L' f r F.nb (Z+1) c (fun _=>0) ct/\(∀y,y<f\/f+pagesN r<=y->L' y=L y)/\Gr Y Y' w/\But Y w w':=by
 obtain⟨K,n,h1,h2,h3⟩:=h
 refine Calls.mono (h3.format f r c hT.f1 hT.f2 hT.hP.hr.1 hT.hP.hr.2 hc.1 hc.2 (by omega) (by omega)) ?_
 rintro e w' ⟨Y',rfl,q1,q2,q3⟩
 refine⟨Y',_,rfl,⟨_,_,?_,?_,q1⟩,(hT.format hc).mono (by omega),fun y hy=>?_,q2,q3⟩
 ·omega
 ·omega
 ·rw[layL_apply,if_neg (by omega)]
theorem OpnZ.formatN{Z:Nat}(h:OpnZ Y w F Z N C t L Ms)(hZ:Z<16000000)(hT:Tst C L f r F.nb Z sz cs ct)(c:Int)(hc:c<1\/(r:Int)<c) :
  Calls Tryz.prog 18 #[.pointer (some ⟨t,0,none⟩),.int .i64 (f:Int),.int .i64 (r:Int),.int .i64 c] w fun e w'=>∃Y',e=.returned (.int .i64 60)/\OpnZ Y' w' F (Z+1) N C t L Ms/\Gr Y Y' w/\But Y w w':=by
 obtain⟨K,n,h1,h2,h3⟩:=h
 have hp:=pagesN_lo hT.hP.hr.1
 have hf2:=hT.f2
 refine Calls.mono (h3.formatC (by omega) f (r:Int) c hT.f1 (by omega) (.inr hc)) ?_
 rintro e w' ⟨Y',rfl,q1,q2,q3⟩
 exact⟨Y',rfl,⟨K+1,n,by omega,by omega,q1⟩,q2,q3⟩
theorem OpnZ.count{Z:Nat}(h:OpnZ Y w F Z N C t L Ms)(hsp:Spb w x f r F.st)(hx:¬Y x)(hZ:Z<16000000)(hT:Tst C L f r F.nb Z sz cs ct)(b:Int) :
  Calls Tryz.prog 46 #[.pointer (some ⟨x,0,none⟩),.pointer (some ⟨t,0,none⟩),.int .i64 b] w fun e w'=>∃Y',e=.returned (.tuple #[.int .i64 (if 1<=b/\b<=(sz:Int) then cs b.toNat else 0),.int .i64 (if 1<=b/\b<=(sz:Int) then 0 else 61)])/\OpnZ Y' w' F (Z+1) N C t L Ms/\Gr Y Y' w/\But Y w w':=by
 obtain⟨K,n,h1,h2,h3⟩:=h
 have hxl:=hsp.lt
 have hnb:=h3.nb
 have hsz:=hT.sz1
 have hr:=hT.hP.hr
 refine count_walk (f:=f) (r:=r) (st:=F.st) (k:=(b.toNat-1) / 480) (s:=(b.toNat-1) % 480) (m:=indexN r+(b.toNat-1) / 480) (by omega) ?_
 refine Calls.mono (h3.lookT hsp hx (by omega) hT.tbs) ?_
 rintro e w1 ⟨Y1,rfl,k1,k2,k3⟩
 refine⟨_,_,rfl,?_⟩
 rw[hsz.2.2]
 have s1:=k3.size
 have VXd:True:=trivial
 obtain⟨wA,hwA⟩:∃wA,wA=w1.alloc (.cells #[.pointer (some ⟨x,0,none⟩),.int .i64 (sz:Int),.int .i64 (tlf C L f),.pointer (some ⟨t,0,none⟩)] 103):=⟨_,rfl⟩
 have bA:Below w1.heap.size w1 wA:=by rw[hwA];exact (Below.refl _ _).alloc (Nat.le_refl _) _
 have sA:wA.heap.size=w1.heap.size+1:=by rw[hwA];simp
 have hvA:wA.heap[w1.heap.size]?=some (.cells #[.pointer (some ⟨x,0,none⟩),.int .i64 (sz:Int),.int .i64 (tlf C L f),.pointer (some ⟨t,0,none⟩)] 103 (0,0)):=by rw[hwA];exact Array.getElem?_push_size
 rw[<- hwA]
 refine Calls.mono (shas_any x t (sz:Int) (tlf C L f) b wA) ?_
 rintro e w2 ⟨rfl,b2⟩
 have b12:Below w1.heap.size w1 w2:=bA.trans (b2.mono (by omega))
 by_cases hb:1<=b/\b<=(sz:Int)
 ·rw[if_pos hb,if_pos hb,decide_eq_true hb]
  refine .inr ⟨rfl,fun vb hvb w3 hw3=>?_⟩
  subst hvb
  obtain⟨bn,rfl⟩:∃bn:Nat,b=(bn:Int):=⟨b.toNat,by omega⟩
  have hb':1<=bn/\bn<=sz:=by omega
  have hg:=grp_lt hb'.1 (by omega:bn<=r)
  have hcl:indexN r+(bn-1) / 480<pagesN r:=by unfold pagesN;omega
  have hple:=pagesN_le hr.2
  rw[Int.toNat_natCast]
  have bD:Below w1.heap.size w1 w3:=by rw[hw3];exact b12.trans ((Below.drew1 w2).mono b12.size)
  have bD2:Below wA.heap.size wA w3:=by rw[hw3];exact b2.trans ((Below.drew1 w2).mono b2.size)
  have sD:=bD.size
  have sD2:=bD2.size
  have hx1:¬Y1 x:=fun q=>hx (k2 x hxl q)
  have sp3:=(hsp.keep (k3.block x hxl hx)).keep (bD.block x (by omega))
  have hv3:=(bD2.block w1.heap.size (by omega)).trans hvA
  have hv1:¬Y1 w1.heap.size:=fun q=>by have:=k1.lt _ q;omega
  have SBs:∀W:World,W.heap[w1.heap.size]?=w3.heap[w1.heap.size]?->W.heap[x]?=w3.heap[x]?->(W.cell? ⟨w1.heap.size,0,none⟩=some (.pointer (some ⟨x,0,none⟩))/\W.cell? ⟨w1.heap.size,1,none⟩=some (.int .i64 (sz:Int))/\W.cell? ⟨w1.heap.size,2,none⟩=some (.int .i64 (tlf C L f))/\W.cell? ⟨w1.heap.size,3,none⟩=some (.pointer (some ⟨t,0,none⟩))/\W.cell? ⟨x,0,none⟩=some (.int .i64 (f:Int))/\W.cell? ⟨x,1,none⟩=some (.int .i64 (r:Int))/\W.cell? ⟨x,2,none⟩=some (.pointer (some ⟨F.st,0,none⟩))):=fun W e1 e2=>by
   have sp:=sp3.keep e2
   rw[hv3]at e1
   exact⟨by simp[World.cell?,e1],by simp[World.cell?,e1],by simp[World.cell?,e1],by simp[World.cell?,e1],sp.cell 0,sp.cell 1,sp.cell 2⟩
  refine⟨SBs w3 rfl rfl,hid (groupOf_any bn hb'.1 (by omega) w3),Calls.mono (countsPage_any (f:Int) r ((bn-1) / 480) hr.2 (by omega) w3) ?_⟩
  rintro e w4 ⟨rfl,b4⟩
  have s4:=b4.size
  have sp4:=sp3.keep (b4.block x sp3.lt)
  have hf2:=hT.f2
  have hpg:=hT.hP.pg _ hcl
  refine⟨rfl,SBs w4 (b4.block _ (by omega)) (b4.block _ sp3.lt),Calls.mono (((k1.below bD).below b4).pageS (by omega) f r (indexN r+(bn-1) / 480) hr.2 (by omega) (by have:=hT.f1;omega) (by omega)) ?_⟩
  rintro e w5 ⟨Y5,q1,qp,_,q6,q7⟩
  obtain⟨g,cp,rfl,q2,q3,q4,q5⟩:=qp hpg
  have hcn:=hT.cn hb'
  have hO:Own w5 g 512 cp (spgA C L f (indexN r+(bn-1) / 480)):=q3
  have hcell:w5.cell? ⟨g,32+(bn-1) % 480,none⟩=some (.int .u8 (cs bn)):=by
   rw[<- hcn.1]
   exact hO.cell _ (by omega)
  refine⟨g,cp,cs bn,rfl,SBs w5 ((q7.block _ (by omega) hv1).trans (b4.block _ (by omega))) ((q7.block _ (by omega) hx1).trans (b4.block _ sp3.lt)),⟨hcell,hcn.2.1,hcn.2.2.1⟩,hid (slotOf_any bn hb'.1 (by omega) w5),Y5,rfl,⟨K+2,n,by omega,by omega,q1⟩,fun q hq e=>k2 q hq (q6 q (by omega) e),?_⟩
  exact ((k3.comp (But.of_below bD (X:=fun _=>False)) (fun _ _ q=>q.elim)).comp (But.of_below b4 (X:=fun _=>False)) (fun _ _ q=>q.elim)).comp q7 (fun q hq e=>k2 q hq e)
 ·rw[if_neg hb,if_neg hb,decide_eq_false hb]
  exact .inl ⟨rfl,Y1,rfl,⟨K+1,n,by omega,by omega,k1.below b12⟩,k2,k3.comp (But.of_below b12 (X:=fun _=>False)) (fun _ _ q=>q.elim)⟩
open Go.RowKit Go.Deep
theorem Image_any{puts:List (Nat×List Int)}{nb:Nat}(h:Dk X w p img puts fu off nb) :
  Calls Tryz.prog 60 #[.pointer (some ⟨p,0,none⟩)] w fun e w'=>∃g c,e=.returned (.tuple #[.slice (some ⟨g,0,none⟩) img.length c,.int .i64 0])/\w.heap.size<=g/\Own w' g img.length c img/\Below w.heap.size w w':=by
 obtain⟨ds,gL,cL,pv,mp,rfl,h⟩:=h
 have hlen:=h.own.len
 have hhi:=h.hi
 have HCl:=hid (Clone_any ⟨gL,0,none⟩ (512 * nb) cL img w (by omega) (h.own.rd h.isb))
 have q0:=h.blk.cell 0
 simp only[List.getElem?_toArray,List.getElem?_cons_zero]at q0
 clear h
 go_enter Tryz.func60,Tryz.ntmps60
 go_wp2_with fail
 refine (ask_none w).mono ?_
 rintro e w1 ⟨rfl,rfl⟩
 go_wp2_with fail
 refine Calls.mono HCl.out ?_
 rintro e w5 ⟨g,cap,rfl,hg,hO,hb5⟩
 have HO:=hid hO
 have Hb5:=hid hb5
 have Hg:=hid hg
 clear hO hb5 hg HCl q0
 go_wp2
 go_ret2
 rw[hlen]
 exact⟨g,cap,rfl,Hg.out,HO.out,Hb5.out⟩
def StoQ (Z:Nat->Prop) (w:World) (p nb N:Nat) (C:Nat->List Int) (e:Ending) (w':World):Prop :=
 ∃F Y',e=.returned (.tuple #[.pointer (some ⟨F.st,0,none⟩),.bool true])/\(F.p=p/\F.nb=nb)/\Idl Y' w' F 0 N C/\(∀k,Y' k->Z k\/w.heap.size<=k)/\But Z w w'
theorem sstore_old{nb:Nat}{home:Nat->List Int}(hD:Dk Z w p d.img d.puts d.fu d.off nb)(hon:On d s nb 0 64 lo home Ts)(hfu:d.fu=-1)(hf:d.Fits nb)(h1:64<=nb)(h2:nb<=524288)(hC:∀y,64<=y->y<nb->contT home Ts Ts.length y=C y) :
  Calls Tryz.prog 35 #[.pointer (some ⟨p,0,none⟩),.bool false] w (StoQ Z w p nb Ts.length C):=by
 refine poz fun PO hPO=>?_
 have HF:Hid (∀w1 c,Below w.heap.size w w1->Cst (fun k=>w.heap.size<=k) w1 c p 16 0 0 []->Calls Tryz.prog 70 #[.pointer (some ⟨c,0,none⟩),.int .i64 0,.int .i64 64] w1 fun e w3=>∃j,e=.returned (.tuple #[.pointer (some ⟨j,0,none⟩),.int .i64 0])/\Calls Tryz.prog 71 #[.pointer (some ⟨j,0,none⟩)] w3 fun e w'=>∃st,e=.returned (.tuple #[.pointer (some ⟨st,0,none⟩),.int .i64 0])/\PO (.returned (.tuple #[.pointer (some ⟨st,0,none⟩),.bool true])) w'):=fun w1 c b1 hCs=>by
  have s1:=b1.size
  have hq:=Cq.new' (d:=d) hD hCs b1
  have hpl:=hon.puts (by decide) (by omega) h2
  refine Calls.mono (Open_any hq ((0:Nat):Int) ((64:Nat):Int) (by omega)) ?_
  intro e w5 hO
  obtain⟨b5,j,Z5,d5,s5,rfl,hj5,g5,fu5,J5,on5⟩:=OpenP.anew hO hon hfu hf (by decide) (by omega) h2
  have q5:=b5.size
  refine⟨j,rfl,?_⟩
  refine Calls.mono (topen_any J5.cut on5.on) ?_
  rintro e w6 ⟨st,rfl,k1,k2,k3⟩
  refine⟨st,rfl,?_⟩
  have s6:=k3.size
  have hZ5:∀k,Z5 k->k<w5.heap.size->Z k\/w.heap.size<=k:=fun k e hk=>by
   rcases Nat.lt_or_ge k w.heap.size with hk' | hk'
   ·rcases (g5 k (by omega) e).1 with r | r
    ·exact .inl r
    ·omega
   ·exact .inr hk'
  rw[hPO]
  refine⟨⟨j,c,p,st,nb⟩,fun k=>(Z5 k/\k<w5.heap.size)\/k=st,rfl,⟨rfl,rfl⟩,⟨d5,_,_,Ts,⟨fun k=>Z5 k/\k<w5.heap.size,J5.cut.below k3,fun k e=>.inl e,k2,fun e=>absurd (show st<w5.heap.size from e.2) (by omega),.inr rfl⟩,fu5,on5.mono (Nat.zero_le _),Nat.le_refl _,hC,fun k e=>?_,h1,h2⟩,fun k e=>?_,?_⟩
  ·rcases e with e | e
   ·exact Nat.lt_of_lt_of_le e.2 s6
   ·exact e ▸ k2.lt
  ·rcases e with e | e
   ·exact hZ5 k e.1 e.2
   ·exact .inr (by omega)
  ·have bb2:But Z w w5:=(But.of_below b1 (X:=Z)).comp b5 (fun k hk q=>by
    rcases q.1 with r | r
    ·exact r
    ·omega)
   exact bb2.comp (But.of_below k3 (X:=fun _=>False)) (fun _ _ q=>q.elim)
 clear hPO hD hon hf hC hfu
 go_enter Tryz.func35,Tryz.ntmps35
 go_wp2_with fail
 refine Calls.mono (CNew_ok (w:=w) p 16 (by omega) (by omega)) ?_
 rintro e w1 ⟨c,rfl,hc,hCs,b1⟩
 have HF1:=hid (HF.out w1 c b1 hCs)
 clear HF hc hCs b1
 go_wp2_with fail
 refine Calls.mono (num_any 0 w1) ?_
 rintro e w9 ⟨rfl,hw9⟩
 rw[hw9]
 clear hw9
 go_wp2_with fail
 refine Calls.mono HF1.out ?_
 rintro e w3 ⟨j,rfl,h3⟩
 have HF3:=hid h3
 clear h3 HF1
 go_wp2_with fail
 refine Calls.mono (num_any 0 w3) ?_
 rintro e w9 ⟨rfl,hw9⟩
 rw[hw9]
 clear hw9
 go_wp2_with fail
 refine Calls.mono HF3.out ?_
 rintro e w4 ⟨st,rfl,h3⟩
 have FIN:=hid h3
 clear h3 HF3
 go_wp2_with fail
 refine Calls.mono (num_any 0 w4) ?_
 rintro e w9 ⟨rfl,hw9⟩
 rw[hw9]
 clear hw9
 go_wp2
 exact FIN.out
theorem Idl.flushD(h:Idl Y w F K N C) :
  Calls Tryz.prog 59 #[.pointer (some ⟨F.st,0,none⟩)] w fun e w'=>∃Y' d s home Ts,e=.returned (.int .i64 0)/\Idl Y' w' F K N C/\Dk Y' w' F.p d.img d.puts d.fu d.off F.nb/\(d.puts=[]/\d.fu=-1/\d.off=false/\d.Fits F.nb)/\On d s F.nb 0 64 Ts.length home Ts/\(∀y,64<=y->y<F.nb->contT home Ts Ts.length y=C y)/\Ts.length<=N/\Gr Y Y' w/\But Y w w':=by
 obtain⟨d,s,home,Ts,h1,h2,h3,h4,h5,h6,h7,h8⟩:=h
 have h1':StO Y w F.j F.c F.p F.st F.nb K 0 64 d s none:=h1
 obtain⟨_,_,_,hS,_⟩:=h1'.jq
 obtain⟨Z,hJ,hcl⟩:=h1'.open
 have hpl:=h3.puts (by decide) (by omega) h8
 refine Calls.mono (sflush_on hJ h3.on (by omega) hS) ?_
 rintro e w' ⟨rfl,⟨Z',s',r1,r2,r3⟩,r4⟩
 obtain⟨f1,f2,f3⟩:=Pd.runs_free h3.on h2 [.fl]
 obtain rfl:=r2 f1
 obtain⟨Y',q1,q2,q3,q4⟩:=hcl w' K _ _ ⟨Z',r1,r3⟩ r4
 have on':=(h3.flush hJ.fits.1 (by decide) (by omega) h8).1 f1
 obtain⟨Z2,j2,j3,_⟩:=q1.jq
 have hpu:(d.runs [.fl]).2.puts=[]:=by
  rw[Pd.runs_one]
  show (d.flush).2.puts=[]
  unfold Pd.flush
  rw[if_pos ⟨h3.on,by rw[h2];decide⟩]
 refine⟨Y',(d.runs [.fl]).2,_,home,Ts,by rw[f1],⟨_,_,home,Ts,q1,f3,on'.mono (Nat.zero_le _),h4,h5,q2,h7,h8⟩,j2.dk.1.mono j3,⟨hpu,f3,on'.on,j2.fits.1⟩,on',h5,h4,q3,q4⟩
open Go.RowKit Go.Deep
def AgR (o:Nat) (PO:Ending->World->Prop) (w:World):Prop :=
 ∃st,w.cell? ⟨o,1,none⟩=some (.pointer (some ⟨st,0,none⟩))/\((∃u,w.cell? ⟨o,9,none⟩=some u)/\w.frozen? ⟨o,9,none⟩=false)/\∀w1,w1=w.setCell ⟨o,9,none⟩ (.pointer none)->Calls Tryz.prog 59 #[.pointer (some ⟨st,0,none⟩)] w1 fun e w2=>∃p,e=.returned (.int .i64 0)/\w2.cell? ⟨o,0,none⟩=some (.pointer (some ⟨p,0,none⟩))/\Calls Tryz.prog 60 #[.pointer (some ⟨p,0,none⟩)] w2 fun e w3=>∃g n c,e=.returned (.tuple #[.slice (some ⟨g,0,none⟩) n c,.int .i64 0])/\Calls Tryz.prog 61 #[.slice (some ⟨g,0,none⟩) n c] w3 fun e w4=>∃p2,e=.returned (.tuple #[.pointer (some ⟨p2,0,none⟩),.int .i64 0])/\Calls Tryz.prog 35 #[.pointer (some ⟨p2,0,none⟩),.bool false] w4 fun e w5=>∃st2,e=.returned (.tuple #[.pointer (some ⟨st2,0,none⟩),.bool true])/\((∃u,w5.cell? ⟨o,0,none⟩=some u)/\w5.frozen? ⟨o,0,none⟩=false/\(∃u,w5.cell? ⟨o,1,none⟩=some u)/\w5.frozen? ⟨o,1,none⟩=false) /\
  ∀w6,w6=(w5.setCell ⟨o,0,none⟩ (.pointer (some ⟨p2,0,none⟩))).setCell ⟨o,1,none⟩ (.pointer (some ⟨st2,0,none⟩))->Calls Tryz.prog 9 #[.pointer (some ⟨st2,0,none⟩)] w6 fun e w7=>∃t,e=.returned (.tuple #[.pointer (some ⟨t,0,none⟩),.int .i64 0])/\Calls Tryz.prog 14 #[.pointer (some ⟨t,0,none⟩)] w7 fun e w8=>e=.returned (.int .i64 0)/\((∃u,w8.cell? ⟨o,10,none⟩=some u)/\w8.frozen? ⟨o,10,none⟩=false) /\
   ∀w9,w9=w8.setCell ⟨o,10,none⟩ (.pointer (some ⟨t,0,none⟩))->Calls Tryz.prog 36 #[.pointer (some ⟨o,0,none⟩)] w9 fun e w10=>e=.returned (.bool true)/\PO (.returned (.bool true)) w10
theorem again_nil(hT:w.cell? ⟨o,9,none⟩=some (.pointer none))(H:AgR o PO w):Calls Tryz.prog 29 #[.pointer (some ⟨o,0,none⟩)] w PO:=by
 obtain⟨st,k1,⟨⟨u9,c9⟩,f9⟩,h1⟩:=H
 have H1:=hid (h1 _ rfl)
 clear h1 c9
 go_enter Tryz.func29,Tryz.ntmps29
 go_wp2_with fail
 refine Calls.mono H1.out ?_
 rintro e w2 ⟨p,rfl,k0,h3⟩
 have H3:=hid h3
 clear h3 H1
 go_wp2_with fail
 refine Calls.mono (num_any 0 w2) ?_
 rintro e w9 ⟨rfl,hw9⟩
 rw[hw9]
 clear hw9
 go_wp2_with fail
 refine Calls.mono H3.out ?_
 rintro e w3 ⟨g,n,c,rfl,h4⟩
 have H4:=hid h4
 clear h4 H3 k0
 go_wp2_with fail
 refine Calls.mono H4.out ?_
 rintro e w4 ⟨p2,rfl,h5⟩
 have H5:=hid h5
 clear h5 H4
 go_wp2_with fail
 refine Calls.mono (num_any 0 w4) ?_
 rintro e w9 ⟨rfl,hw9⟩
 rw[hw9]
 clear hw9
 go_wp2_with fail
 refine Calls.mono (num_any 0 w4) ?_
 rintro e w9 ⟨rfl,hw9⟩
 rw[hw9]
 clear hw9
 go_wp2_with fail
 refine Calls.mono H5.out ?_
 rintro e w5 ⟨st2,rfl,⟨⟨u0,c0⟩,f0,⟨u1,c1⟩,f1⟩,h6⟩
 have H6:=hid (h6 _ rfl)
 clear h6 H5
 go_wp2_with fail
 refine Calls.mono H6.out ?_
 rintro e w6 ⟨t,rfl,h7⟩
 have H7:=hid h7
 clear h7 H6 c0 f0 c1 f1
 go_wp2_with fail
 refine Calls.mono (num_any 0 w6) ?_
 rintro e w9 ⟨rfl,hw9⟩
 rw[hw9]
 clear hw9
 go_wp2_with fail
 refine Calls.mono H7.out ?_
 rintro e w7 ⟨rfl,⟨⟨u2,c2⟩,f2⟩,h8⟩
 have H8:=hid (h8 _ rfl)
 clear h8 H7
 go_wp2_with fail
 refine Calls.mono (num_any 0 w7) ?_
 rintro e w9 ⟨rfl,hw9⟩
 rw[hw9]
 clear hw9
 go_wp2_with fail
 refine Calls.mono H8.out ?_
 rintro e w8 ⟨rfl,hF⟩
 have FIN:=hid hF
 clear hF H8 c2 f2
 go_wp2_with fail
 exact FIN.out
end Go.Proofs.YtlefjidbpjkhlaaGreat
