import Derived.Test.YtlefjidbpjkhlaaGreatK40
import Derived.Test.YtlefjidbpjkhlaaGreatK11
set_option maxRecDepth 100000
set_option maxHeartbeats 16000000
namespace Go.Proofs.YtlefjidbpjkhlaaGreat
variable {C:Nat->List Int}
variable {L:Nat->Option (List Int)}
variable {K N f n r st sz t x:Nat}
variable {Y:Nat->Prop}
variable {w:World}
variable {F:Cf}
variable {Ms:List (Nat->Option (List Int))}
variable {lf:Int}
variable {PO:Ending->World->Prop}
variable {zs:List Int}
open Go.RowKit Go.Deep Go.Shelf
attribute [local go_sem] Oper.semAt_some
structure TbS (C:Nat->List Int) (L:Nat->Option (List Int)) (f r nb:Nat):Prop where
 hr:1<=r/\r<=262144
 f1:64<=f
 f2:f+pagesN r<=nb
 pg:∀j,j<pagesN r->isPg r j (spgA C L f j)=true
 s1:1<=szOf (spgA C L f 0)/\szOf (spgA C L f 0)<=r
def tsz (C:Nat->List Int) (L:Nat->Option (List Int)) (f:Nat):Nat:=(szOf (spgA C L f 0)).toNat
def tlf (C:Nat->List Int) (L:Nat->Option (List Int)) (f:Nat):Int:=lfOf (spgA C L f 0)
theorem TbS.size{nb:Nat}(h:TbS C L f r nb):((tsz C L f:Nat):Int)=szOf (spgA C L f 0)/\1<=tsz C L f/\tsz C L f<=r:=by
 have:=h.s1
 unfold tsz
 omega
theorem Opn.lookT(h:Opn Y w F K N C t L Ms n)(hsp:Spb w x f r F.st)(hx:¬Y x)(hK:K+13000<4611686018427387904)(hT:TbS C L f r F.nb) :
  Calls Tryz.prog 50 #[.pointer (some ⟨x,0,none⟩),.pointer (some ⟨t,0,none⟩)] w fun e w'=>∃Y',e=.returned (.tuple #[.agg #[.pointer (some ⟨x,0,none⟩),.int .i64 (tsz C L f:Int),.int .i64 (tlf C L f),.pointer (some ⟨t,0,none⟩)],.int .i64 0])/\Opn Y' w' F (K+1) N C t L Ms n/\Gr Y Y' w/\But Y w w':=by
 have hp:=pagesN_lo hT.hr.1
 have h2:=hT.f2
 refine Calls.mono (h.look (by omega) hsp hx hT.hr.2 hT.f1 (by omega) (hT.pg 0 (by omega)) hT.s1.1 hT.s1.2) ?_
 rintro e w' ⟨Y',rfl,k1,k2,k3⟩
 refine⟨Y',?_,k1,k2,k3⟩
 rw[hT.size.1]
 rfl
theorem Opn.freeT(h:Opn Y w F K N C t L Ms n)(hsp:Spb w x f r F.st)(hx:¬Y x)(hK:K+13000<4611686018427387904)(hT:TbS C L f r F.nb) :
  Calls Tryz.prog 39 #[.pointer (some ⟨x,0,none⟩),.pointer (some ⟨t,0,none⟩)] w fun e w'=>∃K' Y',e=.returned (.tuple #[.int .i64 (smI C L f r (tsz C L f) (tlf C L f) (gls C L f (tsz C L f) ((tsz C L f-1) / 480+1))),.int .i64 0])/\K'<=K+1710/\Opn Y' w' F K' N C t L Ms n/\Gr Y Y' w/\But Y w w':=by
 refine poz fun PO hPO=>?_
 have HLK:=hid (h.lookT hsp hx hK hT)
 have hxl:=hsp.lt
 have HCF:Hid (∀Y' w',Opn Y' w' F (K+1) N C t L Ms n->Gr Y Y' w->But Y w w'->Calls Tryz.prog 73 #[.agg #[.pointer (some ⟨x,0,none⟩),.int .i64 (tsz C L f:Int),.int .i64 (tlf C L f),.pointer (some ⟨t,0,none⟩)]] (w'.alloc (.cells #[.pointer (some ⟨x,0,none⟩),.int .i64 (tsz C L f:Int),.int .i64 (tlf C L f),.pointer (some ⟨t,0,none⟩)] 103)) fun e w''=>∃v,e=.returned (.tuple #[.int .i64 v,.int .i64 0])/\PO (.returned (.tuple #[.int .i64 v,.int .i64 0])) w''):=fun Y' w' k1 k2 k3=>by
  have bA:Below w'.heap.size w' (w'.alloc (.cells #[.pointer (some ⟨x,0,none⟩),.int .i64 (tsz C L f:Int),.int .i64 (tlf C L f),.pointer (some ⟨t,0,none⟩)] 103)):=(Below.refl _ _).alloc (Nat.le_refl _) _
  refine Calls.mono ((k1.below bA).vcountFree (hsp.keep ((bA.block x (Nat.lt_of_lt_of_le hxl k3.size)).trans (k3.block x hxl hx))) (fun q=>hx (k2 x hxl q)) (by omega) hT.size.2 hT.hr.2 hT.f1 hT.f2 hT.pg) ?_
  rintro e w'' ⟨K',Y'',rfl,q1,q2,q3,q4⟩
  refine⟨_,rfl,?_⟩
  rw[hPO]
  have s3:=k3.size
  have sA:=bA.size
  refine⟨K',Y'',rfl,by omega,q2,fun q hq e=>k2 q hq (q3 q (by omega) e),?_⟩
  exact (k3.comp (But.of_below bA (X:=fun _=>False)) (fun _ _ q=>q.elim)).comp q4 (fun q hq e=>k2 q hq e)
 clear hPO h hsp hx hT hxl hK
 generalize (tsz C L f:Int)=sv at *
 generalize tlf C L f=lv at *
 go_enter Tryz.func39,Tryz.ntmps39
 go_wp2_with fail
 refine Calls.mono HLK.out ?_
 rintro e w1 ⟨Y1,rfl,k1,k2,k3⟩
 have HC:=hid (HCF.out Y1 w1 k1 k2 k3)
 clear k1 k2 k3 HCF HLK
 go_wp2_with fail
 refine Calls.mono HC.out ?_
 rintro e w2 ⟨v,rfl,hp⟩
 have HP:=hid hp
 clear hp HC
 go_wp2_with fail
 exact HP.out
open Go.RowKit Go.Deep
attribute [local go_sem] Oper.semAt_some
def SyC (w:World) (x f r t:Nat) (sz lf:Int) (hs hl:Nat) (PO:Ending->World->Prop):Prop :=
 ∀w0,w0=((w.alloc (.cells #[.pointer (some ⟨x,0,none⟩),.int .i64 sz,.int .i64 lf,.pointer (some ⟨t,0,none⟩)] 103)).alloc (.cells #[.int .i64 (hs:Int),.int .i64 (hl:Int)] 99)).drew->(w0.cell? ⟨w.heap.size,0,none⟩=some (.pointer (some ⟨x,0,none⟩))/\w0.cell? ⟨w.heap.size,3,none⟩=some (.pointer (some ⟨t,0,none⟩))/\w0.cell? ⟨x,0,none⟩=some (.int .i64 (f:Int))/\w0.cell? ⟨x,1,none⟩=some (.int .i64 (r:Int)))/\Calls Tryz.prog 87 #[.agg #[.int .i64 (f:Int),.int .i64 (r:Int)],.iface 101 (.agg #[.pointer (some ⟨t,0,none⟩)]),.int .i64 0] w0 fun e w1=>∃g cp,e=.returned (.tuple #[.slice (some ⟨g,0,none⟩) 512 cp,.int .i64 0])/\(w1.cell? ⟨w.heap.size,0,none⟩=some (.pointer (some ⟨x,0,none⟩))/\w1.cell? ⟨w.heap.size,3,none⟩=some (.pointer (some ⟨t,0,none⟩))/\w1.cell? ⟨x,0,none⟩=some (.int .i64 (f:Int))/\w1.cell? ⟨x,1,none⟩=some (.int .i64 (r:Int)))/\(w1.cell? ⟨w.heap.size+1,0,none⟩=some (.int .i64 (hs:Int))/\w1.cell? ⟨w.heap.size+1,1,none⟩=some (.int .i64 (hl:Int))) /\
  Calls Tryz.prog 92 #[.agg #[.int .i64 (hs:Int),.int .i64 (hl:Int)],.slice (some ⟨g,0,none⟩) 512 cp] w1 fun e w2=>e=.returned (.tuple #[])/\∀w3,w3=w2.drew->(w3.cell? ⟨w.heap.size,0,none⟩=some (.pointer (some ⟨x,0,none⟩))/\w3.cell? ⟨w.heap.size,3,none⟩=some (.pointer (some ⟨t,0,none⟩))/\w3.cell? ⟨x,0,none⟩=some (.int .i64 (f:Int))/\w3.cell? ⟨x,1,none⟩=some (.int .i64 (r:Int)))/\Calls Tryz.prog 52 #[.pointer (some ⟨t,0,none⟩),.int .i64 (f:Int),.slice (some ⟨g,0,none⟩) 512 cp] w3 fun e w4=>∃v,e=.returned (.int .i64 v)/\(w4.cell? ⟨w.heap.size,0,none⟩=some (.pointer (some ⟨x,0,none⟩))/\w4.cell? ⟨w.heap.size,3,none⟩=some (.pointer (some ⟨t,0,none⟩))/\w4.cell? ⟨x,0,none⟩=some (.int .i64 (f:Int))/\w4.cell? ⟨x,1,none⟩=some (.int .i64 (r:Int)))/\PO (.returned (.int .i64 v)) w4
theorem say_walk{sz:Int}{hs hl:Nat}(H:SyC w x f r t sz lf hs hl PO) :
  Calls Tryz.prog 100 #[.agg #[.pointer (some ⟨x,0,none⟩),.int .i64 sz,.int .i64 lf,.pointer (some ⟨t,0,none⟩)],.agg #[.int .i64 (hs:Int),.int .i64 (hl:Int)]] w PO:=by
 obtain⟨w0,hw0⟩:∃w0,w0=((w.alloc (.cells #[.pointer (some ⟨x,0,none⟩),.int .i64 sz,.int .i64 lf,.pointer (some ⟨t,0,none⟩)] 103)).alloc (.cells #[.int .i64 (hs:Int),.int .i64 (hl:Int)] 99)).drew:=⟨_,rfl⟩
 obtain⟨kS,h1⟩:=H w0 hw0
 have H1:=hid h1
 have HW:=hid hw0
 rw[hw0]at kS
 clear H h1 hw0
 go_enter Tryz.func100,Tryz.ntmps100
 go_wp2_with fail
 refine Gz (S:=fun w'=>w'.cell? ⟨w.heap.size,0,none⟩=some (.pointer (some ⟨x,0,none⟩))/\w'.cell? ⟨w.heap.size,3,none⟩=some (.pointer (some ⟨t,0,none⟩))/\w'.cell? ⟨x,0,none⟩=some (.int .i64 (f:Int))/\w'.cell? ⟨x,1,none⟩=some (.int .i64 (r:Int))) kS (fun hSS=>?_)
 refine Ti 0 rfl ?_
 refine Ti 1 rfl ?_
 refine Ti 2 rfl ?_
 refine Ti 3 rfl ?_
 refine Ti 4 rfl ?_
 refine Ti 5 rfl ?_
 try simp only[Act.put,zA,zB,zC]
 refine Ti 6 rfl ?_
 refine Ti 7 rfl ?_
 try simp only[Act.put,zA,zB,zC]
 refine Ri 8 rfl (fun K9 hK9=>?_)
 go_simp
 go_at_call 87
 rw[<- HW.out]
 refine Calls.mono H1.out ?_
 rintro e w1 ⟨g,cp,rfl,hk1,hkh,h2⟩
 have H2:=hid h2
 clear h2 H1 HW
 refine hK9.out _ _ hk1 (fun hSS=>?_)
 try simp only[Act.put,zA,zB,zC]
 refine Ti 9 rfl ?_
 refine Ti 10 rfl ?_
 refine Ti 11 rfl ?_
 refine Ti 12 rfl ?_
 refine Ti 13 rfl ?_
 try simp only[Act.put,zA,zB,zC]
 refine Dn ?_
 clear hSS kS hk1
 obtain⟨hkh0,hkh1⟩:=hkh
 go_wp2_with fail
 refine Calls.mono H2.out ?_
 rintro e w2 ⟨rfl,h3⟩
 obtain⟨kT,h4⟩:=h3 _ rfl
 have H4:=hid h4
 clear h3 h4 H2 hkh0 hkh1
 go_wp2_with fail
 refine Gz (S:=fun w'=>w'.cell? ⟨w.heap.size,0,none⟩=some (.pointer (some ⟨x,0,none⟩))/\w'.cell? ⟨w.heap.size,3,none⟩=some (.pointer (some ⟨t,0,none⟩))/\w'.cell? ⟨x,0,none⟩=some (.int .i64 (f:Int))/\w'.cell? ⟨x,1,none⟩=some (.int .i64 (r:Int))) kT (fun hSS=>?_)
 refine Ti 0 rfl ?_
 try simp only[Act.put,zA,zB,zC]
 refine Ti 1 rfl ?_
 refine Ti 2 rfl ?_
 refine Ti 3 rfl ?_
 refine Ti 4 rfl ?_
 refine Ti 5 rfl ?_
 refine Ti 6 rfl ?_
 try simp only[Act.put,zA,zB,zC]
 refine Ti 7 rfl ?_
 refine Ti 8 rfl ?_
 refine Ti 9 rfl ?_
 try simp only[Act.put,zA,zB,zC]
 refine Ri 10 rfl (fun K9 hK9=>?_)
 go_simp
 go_at_call 52
 refine Calls.mono H4.out ?_
 rintro e w4 ⟨v,rfl,hk4,hF⟩
 have FIN:=hid hF
 clear hF H4
 refine hK9.out _ _ hk4 (fun hSS=>?_)
 try simp only[Act.put,zA,zB,zC]
 refine Ti 11 rfl ?_
 try simp only[Act.put,zA,zB,zC]
 refine Dn ?_
 clear hSS kT hk4
 go_wp2
 exact FIN.out
theorem Opn.say(h:Opn Y w F K N C t L Ms n)(hK:K+2<4611686018427387904)(hn:n<=1073741823)(hx:Spb w x f r F.st)(hY:¬Y x)(sz lf:Int)(hs hl:Nat)(hs1:hs<=262144)(hl1:hl<=1099511627775)(hr:r<=262144)(hf1:64<=f)(hf2:f<F.nb)(hp:isPg r 0 (spgA C L f 0)=true) :
  Calls Tryz.prog 100 #[.agg #[.pointer (some ⟨x,0,none⟩),.int .i64 sz,.int .i64 lf,.pointer (some ⟨t,0,none⟩)],.agg #[.int .i64 (hs:Int),.int .i64 (hl:Int)]] w fun e w'=>∃Y',e=.returned (.int .i64 0)/\Opn Y' w' F (K+2) N C t (putL L f (splice (spgA C L f 0) 21 (sheadZ hs hl))) Ms (n+2)/\Gr Y Y' w/\But Y w w':=by
 refine say_walk (f:=f) (r:=r) (fun w0 hw0=>?_)
 have hxl:=hx.lt
 have hlt:=h.lt
 have z0:w0.heap.size=w.heap.size+2:=by rw[hw0];simp
 have b0:Below w.heap.size w w0:=by rw[hw0];exact (((Below.refl _ _).alloc (Nat.le_refl _) _).alloc (by simp) _).drew
 have hv0:w0.heap[w.heap.size]?=some (.cells #[.pointer (some ⟨x,0,none⟩),.int .i64 sz,.int .i64 lf,.pointer (some ⟨t,0,none⟩)] 103 (0,0)):=by rw[hw0];exact (heap2 _ _ _).1
 have hc0:w0.heap[w.heap.size+1]?=some (.cells #[.int .i64 (hs:Int),.int .i64 (hl:Int)] 99 (0,0)):=by rw[hw0];exact (heap2 _ _ _).2
 have hx0:Spb w0 x f r F.st:=hx.keep (b0.block x hxl)
 refine⟨⟨by simp[World.cell?,hv0],by simp[World.cell?,hv0],hx0.cell 0,hx0.cell 1⟩,?_⟩
 refine Calls.mono ((h.below b0).pageS (by omega) f r 0 hr (by omega) hf1 hf2) ?_
 rintro e w1 ⟨Y1,k1,k2,_,k4,k5⟩
 obtain⟨g,cp,rfl,k6,k7,k8,k9⟩:=k2 hp
 have s1:=k5.size
 have keep1:∀k,k<w0.heap.size->w.heap.size<=k->w1.heap[k]?=w0.heap[k]?:=fun k a b=>k5.block k a (fun q=>by have:=hlt _ q;omega)
 have hx1:Spb w1 x f r F.st:=hx0.keep (k5.block x hx0.lt hY)
 have hv1:=(keep1 w.heap.size (by omega) (by omega)).trans hv0
 have hc1:=(keep1 (w.heap.size+1) (by omega) (by omega)).trans hc0
 refine⟨g,cp,rfl,⟨by simp[World.cell?,hv1],by simp[World.cell?,hv1],hx1.cell 0,hx1.cell 1⟩,⟨by simp[World.cell?,hc1],by simp[World.cell?,hc1]⟩,?_⟩
 refine Calls.mono (hput_any hs1 hl1 k7) ?_
 rintro e w2 ⟨rfl,p1,p2⟩
 refine⟨rfl,fun w3 hw3=>?_⟩
 have s2:=p2.size
 have b23:Below w2.heap.size w2 w3:=by rw[hw3];exact Below.drew1 w2
 have hbB:Pl.isB (splice (spgA C L f 0) 21 (sheadZ hs hl)):=isB_splice k8 (isB_packZ _) _
 have o2:Opn Y1 w2 F (K+1) N C t L Ms n:=k1.keep p2 (fun q _ e1 e2=>k9 (e1 ▸ e2))
 have o3:=o2.below b23
 have nG:∀k,k<w.heap.size+2->k≠g:=fun k hk=>by omega
 have keep3:∀k,k<w.heap.size+2->w3.heap[k]?=w1.heap[k]?:=fun k hk=>(b23.block k (by omega)).trans (p2.block k (by omega) (nG k hk))
 have hx3:Spb w3 x f r F.st:=hx1.keep (keep3 x (by omega))
 have hv3:=(keep3 w.heap.size (by omega)).trans hv1
 have s3:=b23.size
 refine⟨⟨by simp[World.cell?,hv3],by simp[World.cell?,hv3],hx3.cell 0,hx3.cell 1⟩,?_⟩
 have hO3:Own w3 g 512 cp (splice (spgA C L f 0) 21 (sheadZ hs hl)):=p1.keep (b23.block g p1.lt)
 refine Calls.mono (o3.write (by omega) hn f hf1 hf2 (some ⟨g,0,none⟩) cp _ (hO3.rdn hbB k9)) ?_
 rintro e w4 ⟨Y4,rfl,q1,q2,q3⟩
 have g1:∀q,q<w0.heap.size->Y1 q->Y q:=fun q a b=>k4 q a b
 have keep4:∀k,k<w.heap.size+2->¬Y k->w4.heap[k]?=w3.heap[k]?:=fun k hk hn=>q3.block k (by omega) (fun e=>hn (g1 k (by omega) e))
 have nY:∀k,w.heap.size<=k->¬Y k:=fun k hk e=>by have:=hlt _ e;omega
 have hx4:Spb w4 x f r F.st:=hx3.keep (keep4 x (by omega) hY)
 have hv4:=(keep4 w.heap.size (by omega) (nY _ (by omega))).trans hv3
 refine⟨0,rfl,⟨by simp[World.cell?,hv4],by simp[World.cell?,hv4],hx4.cell 0,hx4.cell 1⟩,Y4,rfl,q1,?_,?_⟩
 ·intro q hq e
  exact g1 q (by omega) (q2 q (by omega) e)
 ·have bb:But Y w w1:=(But.of_below b0 (X:=Y)).trans k5
  exact ((bb.comp p2 (fun q hq e=>by omega)).comp (But.of_below b23 (X:=fun _=>False)) (fun _ _ e=>e.elim)).comp q3 (fun q hq e=>g1 q (by omega) e)
open Go.RowKit Go.Deep
attribute [local go_sem] Oper.semAt_some
theorem Opn.resize(h:Opn Y w F K N C t L Ms n)(hK:K+2<4611686018427387904)(hn:n<=1073741823)(hx:Spb w x f r F.st)(hY:¬Y x)(sz:Int)(hs hl:Nat)(hs1:hs<=262144)(hl1:hl<=1099511627775)(hr:r<=262144)(hf1:64<=f)(hf2:f<F.nb)(hp:isPg r 0 (spgA C L f 0)=true) :
  Calls Tryz.prog 58 #[.agg #[.pointer (some ⟨x,0,none⟩),.int .i64 sz,.int .i64 (hl:Int),.pointer (some ⟨t,0,none⟩)],.int .i64 (hs:Int)] w fun e w'=>∃Y',e=.returned (.int .i64 0)/\Opn Y' w' F (K+2) N C t (putL L f (splice (spgA C L f 0) 21 (sheadZ hs hl))) Ms (n+2)/\Gr Y Y' w/\But Y w w':=by
 refine poz fun PO hPO=>?_
 have bA:Below w.heap.size w (w.alloc (.cells #[.pointer (some ⟨x,0,none⟩),.int .i64 sz,.int .i64 (hl:Int),.pointer (some ⟨t,0,none⟩)] 103)):=(Below.refl _ _).alloc (Nat.le_refl _) _
 have HC:Hid (Calls Tryz.prog 100 #[.agg #[.pointer (some ⟨x,0,none⟩),.int .i64 sz,.int .i64 (hl:Int),.pointer (some ⟨t,0,none⟩)],.agg #[.int .i64 (hs:Int),.int .i64 (hl:Int)]] (w.alloc (.cells #[.pointer (some ⟨x,0,none⟩),.int .i64 sz,.int .i64 (hl:Int),.pointer (some ⟨t,0,none⟩)] 103)) fun e w'=>e=.returned (.int .i64 0)/\PO (.returned (.int .i64 0)) w'):=by
  refine Calls.mono ((h.below bA).say hK hn (hx.keep (bA.block x hx.lt)) hY sz (hl:Int) hs hl hs1 hl1 hr hf1 hf2 hp) ?_
  rintro e w' ⟨Y',rfl,q1,q2,q3⟩
  refine⟨rfl,?_⟩
  rw[hPO]
  have sA:=bA.size
  exact⟨Y',rfl,q1,fun q hq e=>q2 q (by omega) e,(But.of_below bA (X:=Y)).trans q3⟩
 clear hPO h hx hp bA
 go_enter Tryz.func58,Tryz.ntmps58
 go_wp2_with fail
 refine Calls.mono HC.out ?_
 rintro e w1 ⟨rfl,hp⟩
 have HP:=hid hp
 clear hp HC
 go_wp2
 exact HP.out
def BeC (w:World) (x f r st t sz:Nat) (lf:Int) (PO:Ending->World->Prop):Prop :=
 ∀w0,w0=(w.alloc (.cells #[.pointer (some ⟨x,0,none⟩),.int .i64 (sz:Int),.int .i64 lf,.pointer (some ⟨t,0,none⟩)] 103)).drew->(w0.cell? ⟨w.heap.size,0,none⟩=some (.pointer (some ⟨x,0,none⟩))/\w0.cell? ⟨w.heap.size,1,none⟩=some (.int .i64 (sz:Int))/\w0.cell? ⟨w.heap.size,2,none⟩=some (.int .i64 lf)/\w0.cell? ⟨w.heap.size,3,none⟩=some (.pointer (some ⟨t,0,none⟩))/\w0.cell? ⟨x,0,none⟩=some (.int .i64 (f:Int))/\w0.cell? ⟨x,1,none⟩=some (.int .i64 (r:Int))/\w0.cell? ⟨x,2,none⟩=some (.pointer (some ⟨st,0,none⟩)))/\Calls Tryz.prog 87 #[.agg #[.int .i64 (f:Int),.int .i64 (r:Int)],.iface 164 (.agg #[.pointer (some ⟨st,0,none⟩),.bool true]),.int .i64 0] w0 fun e w1=>∃g cp,e=.returned (.tuple #[.slice (some ⟨g,0,none⟩) 512 cp,.int .i64 0])/\(w1.cell? ⟨w.heap.size,0,none⟩=some (.pointer (some ⟨x,0,none⟩))/\w1.cell? ⟨w.heap.size,1,none⟩=some (.int .i64 (sz:Int))/\w1.cell? ⟨w.heap.size,2,none⟩=some (.int .i64 lf)/\w1.cell? ⟨w.heap.size,3,none⟩=some (.pointer (some ⟨t,0,none⟩))/\w1.cell? ⟨x,0,none⟩=some (.int .i64 (f:Int))/\w1.cell? ⟨x,1,none⟩=some (.int .i64 (r:Int))/\w1.cell? ⟨x,2,none⟩=some (.pointer (some ⟨st,0,none⟩))) /\
  ∀w2,w2=w1.drew->(w2.cell? ⟨w.heap.size,0,none⟩=some (.pointer (some ⟨x,0,none⟩))/\w2.cell? ⟨w.heap.size,1,none⟩=some (.int .i64 (sz:Int))/\w2.cell? ⟨w.heap.size,2,none⟩=some (.int .i64 lf)/\w2.cell? ⟨w.heap.size,3,none⟩=some (.pointer (some ⟨t,0,none⟩))/\w2.cell? ⟨x,0,none⟩=some (.int .i64 (f:Int))/\w2.cell? ⟨x,1,none⟩=some (.int .i64 (r:Int))/\w2.cell? ⟨x,2,none⟩=some (.pointer (some ⟨st,0,none⟩)))/\Calls Tryz.prog 94 #[.slice (some ⟨g,0,none⟩) 512 cp] w2 fun e w3=>∃s0 l0,e=.returned (.agg #[.int .i64 s0,.int .i64 l0])/\(w3.cell? ⟨w.heap.size,0,none⟩=some (.pointer (some ⟨x,0,none⟩))/\w3.cell? ⟨w.heap.size,1,none⟩=some (.int .i64 (sz:Int))/\w3.cell? ⟨w.heap.size,2,none⟩=some (.int .i64 lf)/\w3.cell? ⟨w.heap.size,3,none⟩=some (.pointer (some ⟨t,0,none⟩))/\w3.cell? ⟨x,0,none⟩=some (.int .i64 (f:Int))/\w3.cell? ⟨x,1,none⟩=some (.int .i64 (r:Int))/\w3.cell? ⟨x,2,none⟩=some (.pointer (some ⟨st,0,none⟩)))/\Calls Tryz.prog 189 #[.int .i64 l0] w3 fun e w4=>∃l1,e=.returned (.int .i64 l1)/\(w4.cell? ⟨w.heap.size,0,none⟩=some (.pointer (some ⟨x,0,none⟩))/\w4.cell? ⟨w.heap.size,1,none⟩=some (.int .i64 (sz:Int))/\w4.cell? ⟨w.heap.size,2,none⟩=some (.int .i64 lf)/\w4.cell? ⟨w.heap.size,3,none⟩=some (.pointer (some ⟨t,0,none⟩))/\w4.cell? ⟨x,0,none⟩=some (.int .i64 (f:Int))/\w4.cell? ⟨x,1,none⟩=some (.int .i64 (r:Int))/\w4.cell? ⟨x,2,none⟩=some (.pointer (some ⟨st,0,none⟩)))/\Calls Tryz.prog 100 #[.agg #[.pointer (some ⟨x,0,none⟩),.int .i64 (sz:Int),.int .i64 lf,.pointer (some ⟨t,0,none⟩)],.agg #[.int .i64 (sz:Int),.int .i64 l1]] w4 fun e w5=>∃v,e=.returned (.int .i64 v)/\(w5.cell? ⟨w.heap.size,0,none⟩=some (.pointer (some ⟨x,0,none⟩))/\w5.cell? ⟨w.heap.size,1,none⟩=some (.int .i64 (sz:Int))/\w5.cell? ⟨w.heap.size,2,none⟩=some (.int .i64 lf)/\w5.cell? ⟨w.heap.size,3,none⟩=some (.pointer (some ⟨t,0,none⟩))/\w5.cell? ⟨x,0,none⟩=some (.int .i64 (f:Int))/\w5.cell? ⟨x,1,none⟩=some (.int .i64 (r:Int))/\w5.cell? ⟨x,2,none⟩=some (.pointer (some ⟨st,0,none⟩)))/\PO (.returned (.int .i64 v)) w5
theorem bear_walk(H:BeC w x f r st t sz lf PO) :
  Calls Tryz.prog 151 #[.agg #[.pointer (some ⟨x,0,none⟩),.int .i64 (sz:Int),.int .i64 lf,.pointer (some ⟨t,0,none⟩)]] w PO:=by
 obtain⟨w0,hw0⟩:∃w0,w0=(w.alloc (.cells #[.pointer (some ⟨x,0,none⟩),.int .i64 (sz:Int),.int .i64 lf,.pointer (some ⟨t,0,none⟩)] 103)).drew:=⟨_,rfl⟩
 obtain⟨kS,h1⟩:=H w0 hw0
 have H1:=hid h1
 have HW:=hid hw0
 rw[hw0]at kS
 clear H h1 hw0
 go_enter Tryz.func151,Tryz.ntmps151
 go_wp2_with fail
 refine Gz (S:=fun w'=>w'.cell? ⟨w.heap.size,0,none⟩=some (.pointer (some ⟨x,0,none⟩))/\w'.cell? ⟨w.heap.size,1,none⟩=some (.int .i64 (sz:Int))/\w'.cell? ⟨w.heap.size,2,none⟩=some (.int .i64 lf)/\w'.cell? ⟨w.heap.size,3,none⟩=some (.pointer (some ⟨t,0,none⟩))/\w'.cell? ⟨x,0,none⟩=some (.int .i64 (f:Int))/\w'.cell? ⟨x,1,none⟩=some (.int .i64 (r:Int))/\w'.cell? ⟨x,2,none⟩=some (.pointer (some ⟨st,0,none⟩))) kS (fun hSS=>?_)
 refine Ti 0 rfl ?_
 refine Ti 1 rfl ?_
 refine Ti 2 rfl ?_
 refine Ti 3 rfl ?_
 refine Ti 4 rfl ?_
 refine Ti 5 rfl ?_
 try simp only[Act.put,zA,zB,zC]
 refine Ti 6 rfl ?_
 refine Ti 7 rfl ?_
 refine Ti 8 rfl ?_
 refine Ti 9 rfl ?_
 refine Ti 10 rfl ?_
 refine Ti 11 rfl ?_
 try simp only[Act.put,zA,zB,zC]
 refine Ri 12 rfl (fun K9 hK9=>?_)
 go_simp
 go_at_call 87
 rw[<- HW.out]
 refine Calls.mono H1.out ?_
 rintro e w1 ⟨g,cp,rfl,hk1,h2⟩
 obtain⟨kT,h3⟩:=h2 _ rfl
 have H3:=hid h3
 clear h2 h3 H1 HW
 refine hK9.out _ _ hk1 (fun hSS=>?_)
 try simp only[Act.put,zA,zB,zC]
 refine Ti 13 rfl ?_
 try simp only[Act.put,zA,zB,zC]
 refine Ti 14 rfl ?_
 refine Ti 15 rfl ?_
 refine Ti 16 rfl ?_
 refine Ti 17 rfl ?_
 try simp only[Act.put,zA,zB,zC]
 refine Dn ?_
 clear hSS kS hk1
 go_wp2_with fail
 refine Gz (S:=fun w'=>w'.cell? ⟨w.heap.size,0,none⟩=some (.pointer (some ⟨x,0,none⟩))/\w'.cell? ⟨w.heap.size,1,none⟩=some (.int .i64 (sz:Int))/\w'.cell? ⟨w.heap.size,2,none⟩=some (.int .i64 lf)/\w'.cell? ⟨w.heap.size,3,none⟩=some (.pointer (some ⟨t,0,none⟩))/\w'.cell? ⟨x,0,none⟩=some (.int .i64 (f:Int))/\w'.cell? ⟨x,1,none⟩=some (.int .i64 (r:Int))/\w'.cell? ⟨x,2,none⟩=some (.pointer (some ⟨st,0,none⟩))) kT (fun hSS=>?_)
 refine Ti 0 rfl ?_
 refine Ti 1 rfl ?_
 refine Ti 2 rfl ?_
 try simp only[Act.put,zA,zB,zC]
 refine Ti 3 rfl ?_
 refine Ti 4 rfl ?_
 try simp only[Act.put,zA,zB,zC]
 refine Ri 5 rfl (fun K9 hK9=>?_)
 go_simp
 go_at_call 94
 refine Calls.mono H3.out ?_
 rintro e w3 ⟨s0,l0,rfl,hk3,h4⟩
 have H4:=hid h4
 clear h4 H3
 refine hK9.out _ _ hk3 (fun hSS=>?_)
 try simp only[Act.put,zA,zB,zC]
 refine wpAnyH_take (i:=6) (oi:=({ dst:=some 30,op:=Op.field 99 (Operand.tmp 29) 1,type:=3,pos:=_,after:=_,guard:=none }:Oper)) (v:=.int .i64 l0) rfl (by kernel_rfl) (by kernel_rfl) (by kernel_rfl) (fun _ _ _ h=>h) (Or.inl ⟨by rfl,?_⟩) hSS ?_
 ·intro w9 hSw
  (try dsimp only at hSw)
  (try go_split_ands)
  first | (go_simp;done) | (go_simp;simp[fld99];done)
 try simp only[Act.put,zA,zB,zC]
 refine Ri 7 rfl (fun K9 hK9=>?_)
 go_simp
 go_at_call 189
 refine Calls.mono H4.out ?_
 rintro e w4 ⟨l1,rfl,hk4,h5⟩
 have H5:=hid h5
 clear h5 H4
 refine hK9.out _ _ hk4 (fun hSS=>?_)
 try simp only[Act.put,zA,zB,zC]
 refine Ti 8 rfl ?_
 try simp only[Act.put,zA,zB,zC]
 refine Ri 9 rfl (fun K9 hK9=>?_)
 go_simp
 go_at_call 100
 refine Calls.mono H5.out ?_
 rintro e w5 ⟨v,rfl,hk5,hF⟩
 have FIN:=hid hF
 clear hF H5
 refine hK9.out _ _ hk5 (fun hSS=>?_)
 try simp only[Act.put,zA,zB,zC]
 refine Ti 10 rfl ?_
 try simp only[Act.put,zA,zB,zC]
 refine Dn ?_
 clear hSS kT hk3 hk4 hk5
 go_wp2
 exact FIN.out
theorem lfOf_bd(hb:Pl.isB zs):0<=lfOf zs/\lfOf zs<1099511627776:=num_take hb 24 5 (by omega)
theorem Opn.bear(h:Opn Y w F K N C t L Ms n)(hK:K+3<4611686018427387904)(hn:n<=1073741823)(hx:Spb w x f r F.st)(hY:¬Y x)(sz:Nat)(lf:Int)(hs1:sz<=262144)(hr:r<=262144)(hf1:64<=f)(hf2:f<F.nb)(hp:isPg r 0 (spgA C L f 0)=true) :
  Calls Tryz.prog 151 #[.agg #[.pointer (some ⟨x,0,none⟩),.int .i64 (sz:Int),.int .i64 lf,.pointer (some ⟨t,0,none⟩)]] w fun e w'=>∃Y',e=.returned (.int .i64 0)/\Opn Y' w' F (K+3) N C t (putL L f (splice (spgA C L f 0) 21 (sheadZ sz ((lfOf (cpg true r 0 (C f))).toNat % 1099511627775+1)))) Ms (n+2)/\Gr Y Y' w/\But Y w w':=by
 refine bear_walk (f:=f) (r:=r) (st:=F.st) (fun w0 hw0=>?_)
 have hxl:=hx.lt
 have hlt:=h.lt
 have z0:w0.heap.size=w.heap.size+1:=by rw[hw0];simp
 have b0:Below w.heap.size w w0:=by rw[hw0];exact ((Below.refl _ _).alloc (Nat.le_refl _) _).drew
 have hv0:w0.heap[w.heap.size]?=some (.cells #[.pointer (some ⟨x,0,none⟩),.int .i64 (sz:Int),.int .i64 lf,.pointer (some ⟨t,0,none⟩)] 103 (0,0)):=by rw[hw0];exact World.alloc_heap_new _ _
 have hx0:Spb w0 x f r F.st:=hx.keep (b0.block x hxl)
 have SS:∀V:World,V.heap[w.heap.size]?=some (.cells #[.pointer (some ⟨x,0,none⟩),.int .i64 (sz:Int),.int .i64 lf,.pointer (some ⟨t,0,none⟩)] 103 (0,0))->Spb V x f r F.st->V.cell? ⟨w.heap.size,0,none⟩=some (.pointer (some ⟨x,0,none⟩))/\V.cell? ⟨w.heap.size,1,none⟩=some (.int .i64 (sz:Int))/\V.cell? ⟨w.heap.size,2,none⟩=some (.int .i64 lf)/\V.cell? ⟨w.heap.size,3,none⟩=some (.pointer (some ⟨t,0,none⟩))/\V.cell? ⟨x,0,none⟩=some (.int .i64 (f:Int))/\V.cell? ⟨x,1,none⟩=some (.int .i64 (r:Int))/\V.cell? ⟨x,2,none⟩=some (.pointer (some ⟨F.st,0,none⟩)):=fun V a b=>⟨by simp[World.cell?,a],by simp[World.cell?,a],by simp[World.cell?,a],by simp[World.cell?,a],b.cell 0,b.cell 1,b.cell 2⟩
 refine⟨SS w0 hv0 hx0,?_⟩
 refine Calls.mono ((h.below b0).pageC (by omega) true f r 0 hr (by omega) hf1 hf2) ?_
 rintro e w1 ⟨g,cp,Y1,rfl,k1,k6,k7,k8,k9,k4,k5⟩
 rw[Nat.add_zero]at k7 k8
 have s1:=k5.size
 have hx1:Spb w1 x f r F.st:=hx0.keep (k5.block x hx0.lt hY)
 have hv1:=(k5.block w.heap.size (by omega) (fun q=>by have:=hlt _ q;omega)).trans hv0
 refine⟨g,cp,rfl,SS w1 hv1 hx1,fun w2 hw2=>?_⟩
 have b2:Below w1.heap.size w1 w2:=by rw[hw2];exact Below.drew1 w1
 have s2:=b2.size
 have hx2:Spb w2 x f r F.st:=hx1.keep (b2.block x hx1.lt)
 have hv2:=(b2.block w.heap.size (by omega)).trans hv1
 refine⟨SS w2 hv2 hx2,?_⟩
 refine Calls.mono (shead_any (k7.keep (b2.block g k7.lt)) k8) ?_
 rintro e w3 ⟨rfl,b3⟩
 have s3:=b3.size
 have hx3:Spb w3 x f r F.st:=hx2.keep (b3.block x hx2.lt)
 have hv3:=(b3.block w.heap.size (by omega)).trans hv2
 refine⟨_,_,rfl,SS w3 hv3 hx3,?_⟩
 have hlb:=lfOf_bd k8
 obtain⟨l0,hl0⟩:∃l0,l0=(lfOf (cpg true r 0 (C f))).toNat:=⟨_,rfl⟩
 have hl1:lfOf (cpg true r 0 (C f))=(l0:Int):=by omega
 rw[hl1,Int.toNat_natCast]
 refine Calls.mono (lifeBehind_any l0 (by omega) w3) ?_
 rintro e w4 ⟨rfl,rfl⟩
 refine⟨_,rfl,SS _ hv3 hx3,?_⟩
 have b13:Below w1.heap.size w1 w4:=b2.trans (b3.mono s2)
 have o3:=k1.below b13
 refine Calls.mono (o3.say (by omega) hn hx3 (fun e=>hY (k4 x hx0.lt e)) (sz:Int) lf sz (l0 % 1099511627775+1) hs1 (by omega) hr hf1 hf2 hp) ?_
 rintro e w5 ⟨Y5,rfl,q1,q2,q3⟩
 have hx5:Spb w5 x f r F.st:=hx3.keep (q3.block x hx3.lt (fun e=>hY (k4 x hx0.lt e)))
 have hv5:=(q3.block w.heap.size (by omega) (fun e=>by have:=hlt _ (k4 _ (by omega) e);omega)).trans hv3
 refine⟨0,rfl,SS _ hv5 hx5,Y5,rfl,q1,fun q hq e=>k4 q (by omega) (q2 q (by omega) e),?_⟩
 have bb:But Y w w1:=(But.of_below b0 (X:=Y)).trans k5
 exact (bb.comp (But.of_below b13 (X:=fun _=>False)) (fun _ _ e=>e.elim)).comp q3 (fun q hq e=>k4 q (by omega) e)
end Go.Proofs.YtlefjidbpjkhlaaGreat
