import Derived.Test.YtlefjidbpjkhlaaGreatK41
import Derived.Test.YtlefjidbpjkhlaaGreatK11
set_option maxRecDepth 100000
set_option maxHeartbeats 16000000
namespace Go.Proofs.YtlefjidbpjkhlaaGreat
variable {w:World}
variable {K N b f i j k m n r st sz t x:Nat}
variable {lf:Int}
variable {PO:Ending->World->Prop}
variable {z zs:List Int}
variable {C:Nat->List Int}
variable {L:Nat->Option (List Int)}
variable {Y:Nat->Prop}
variable {F:Cf}
variable {Ms:List (Nat->Option (List Int))}
open Go.RowKit Go.Deep
attribute [local go_sem] Oper.semAt_some
def TuC (w:World) (x f r st t sz:Nat) (lf:Int) (nm i:Nat) (more:Int) (PO:Ending->World->Prop):Prop :=
 ∀w0,w0=(w.alloc (.cells #[.pointer (some ⟨x,0,none⟩),.int .i64 (sz:Int),.int .i64 lf,.pointer (some ⟨t,0,none⟩)] 103)).drew->(w0.cell? ⟨w.heap.size,0,none⟩=some (.pointer (some ⟨x,0,none⟩))/\w0.cell? ⟨w.heap.size,1,none⟩=some (.int .i64 (sz:Int))/\w0.cell? ⟨w.heap.size,2,none⟩=some (.int .i64 lf)/\w0.cell? ⟨w.heap.size,3,none⟩=some (.pointer (some ⟨t,0,none⟩))/\w0.cell? ⟨x,0,none⟩=some (.int .i64 (f:Int))/\w0.cell? ⟨x,1,none⟩=some (.int .i64 (r:Int))/\w0.cell? ⟨x,2,none⟩=some (.pointer (some ⟨st,0,none⟩)))/\Calls Tryz.prog 146 #[.agg #[.pointer (some ⟨x,0,none⟩),.int .i64 (sz:Int),.int .i64 lf,.pointer (some ⟨t,0,none⟩)],.agg #[.pointer (some ⟨st,0,none⟩),.bool true],.int .i64 (nm:Int)] w0 fun e w1=>∃g cp g2 cp2 t1 t2 tk,e=.returned (.tuple #[.slice (some ⟨g,0,none⟩) 512 cp,.slice (some ⟨g2,0,none⟩) 512 cp2,.int .i64 0])/\(w1.cell? ⟨w.heap.size,0,none⟩=some (.pointer (some ⟨x,0,none⟩))/\w1.cell? ⟨w.heap.size,1,none⟩=some (.int .i64 (sz:Int))/\w1.cell? ⟨w.heap.size,2,none⟩=some (.int .i64 lf)/\w1.cell? ⟨w.heap.size,3,none⟩=some (.pointer (some ⟨t,0,none⟩))/\w1.cell? ⟨x,0,none⟩=some (.int .i64 (f:Int))/\w1.cell? ⟨x,1,none⟩=some (.int .i64 (r:Int))/\w1.cell? ⟨x,2,none⟩=some (.pointer (some ⟨st,0,none⟩)))/\(Hid (Calls Tryz.prog 148 #[.slice (some ⟨g,0,none⟩) 512 cp,.int .i64 (i:Int)] w1 fun e w'=>e=.returned (.int .i64 t1)/\w'=w1)/\Hid (Calls Tryz.prog 148 #[.slice (some ⟨g2,0,none⟩) 512 cp2,.int .i64 (i:Int)] w1 fun e w'=>e=.returned (.int .i64 t2)/\w'=w1)/\Hid (Calls Tryz.prog 147 #[.slice (some ⟨g,0,none⟩) 512 cp,.int .i64 (i:Int)] w1 fun e w'=>e=.returned (.int .i64 tk)/\w'=w1))/\((0<=t1/\t1<281474976710656)/\(0<=t2/\t2<281474976710656)/\0<=tk/\tk<1099511627776) /\
  Calls Tryz.prog 150 #[.slice (some ⟨g,0,none⟩) 512 cp,.int .i64 (i:Int),.int .i64 (tk+more),.int .i64 (max t1 t2+1)] w1 fun e w2=>e=.returned (.bool true)/\∀w3,w3=w2.drew->(w3.cell? ⟨w.heap.size,0,none⟩=some (.pointer (some ⟨x,0,none⟩))/\w3.cell? ⟨w.heap.size,1,none⟩=some (.int .i64 (sz:Int))/\w3.cell? ⟨w.heap.size,2,none⟩=some (.int .i64 lf)/\w3.cell? ⟨w.heap.size,3,none⟩=some (.pointer (some ⟨t,0,none⟩))/\w3.cell? ⟨x,0,none⟩=some (.int .i64 (f:Int))/\w3.cell? ⟨x,1,none⟩=some (.int .i64 (r:Int))/\w3.cell? ⟨x,2,none⟩=some (.pointer (some ⟨st,0,none⟩)))/\Calls Tryz.prog 52 #[.pointer (some ⟨t,0,none⟩),.int .i64 ((f:Int)+(nm:Int)),.slice (some ⟨g,0,none⟩) 512 cp] w3 fun e w4=>e=.returned (.int .i64 0)/\(w4.cell? ⟨w.heap.size,0,none⟩=some (.pointer (some ⟨x,0,none⟩))/\w4.cell? ⟨w.heap.size,1,none⟩=some (.int .i64 (sz:Int))/\w4.cell? ⟨w.heap.size,2,none⟩=some (.int .i64 lf)/\w4.cell? ⟨w.heap.size,3,none⟩=some (.pointer (some ⟨t,0,none⟩))/\w4.cell? ⟨x,0,none⟩=some (.int .i64 (f:Int))/\w4.cell? ⟨x,1,none⟩=some (.int .i64 (r:Int))/\w4.cell? ⟨x,2,none⟩=some (.pointer (some ⟨st,0,none⟩)))/\(¬lf=0->PO (.returned (.int .i64 0)) w4)/\(lf=0->Calls Tryz.prog 151 #[.agg #[.pointer (some ⟨x,0,none⟩),.int .i64 (sz:Int),.int .i64 lf,.pointer (some ⟨t,0,none⟩)]] w4 fun e w5=>∃v,e=.returned (.int .i64 v)/\PO (.returned (.int .i64 v)) w5)
theorem turn_walk{gk nm:Nat}{more:Int}(hq:(gk:Int) / 60=(nm:Int))(hi:(gk:Int) % 60=(i:Int))(hgk:gk<=1000)(hf:f<=4611686018427387904)(hm:more=1\/more=-1)(H:TuC w x f r st t sz lf nm i more PO) :
  Calls Tryz.prog 98 #[.agg #[.pointer (some ⟨x,0,none⟩),.int .i64 (sz:Int),.int .i64 lf,.pointer (some ⟨t,0,none⟩)],.int .i64 (gk:Int),.int .i64 more] w PO:=by
 obtain⟨w0,hw0⟩:∃w0,w0=(w.alloc (.cells #[.pointer (some ⟨x,0,none⟩),.int .i64 (sz:Int),.int .i64 lf,.pointer (some ⟨t,0,none⟩)] 103)).drew:=⟨_,rfl⟩
 obtain⟨kS,h1⟩:=H w0 hw0
 have H1:=hid h1
 have HW:=hid hw0
 rw[hw0]at kS
 have hwr:IntKind.i64.wrap ((f:Int)+(nm:Int))=(f:Int)+(nm:Int):=by rw[IntKind.wrap_i64];omega
 have hm0:¬more=0:=by omega
 clear H h1 hw0
 go_enter Tryz.func98,Tryz.ntmps98
 go_wp2_with fail
 refine Gz (S:=fun w'=>w'.cell? ⟨w.heap.size,0,none⟩=some (.pointer (some ⟨x,0,none⟩))/\w'.cell? ⟨w.heap.size,1,none⟩=some (.int .i64 (sz:Int))/\w'.cell? ⟨w.heap.size,2,none⟩=some (.int .i64 lf)/\w'.cell? ⟨w.heap.size,3,none⟩=some (.pointer (some ⟨t,0,none⟩))/\w'.cell? ⟨x,0,none⟩=some (.int .i64 (f:Int))/\w'.cell? ⟨x,1,none⟩=some (.int .i64 (r:Int))/\w'.cell? ⟨x,2,none⟩=some (.pointer (some ⟨st,0,none⟩))) kS (fun hSS=>?_)
 refine Ti 0 rfl ?_
 refine Ti 1 rfl ?_
 refine Ti 2 rfl ?_
 refine Ti 3 rfl ?_
 refine Ti 4 rfl ?_
 refine Ti 5 rfl ?_
 try simp only[Act.put,zA,zB,zC]
 refine Ti 6 rfl ?_
 refine Ti 7 rfl ?_
 try simp only[Act.put,zA,zB,zC]
 refine Ri 8 rfl (fun K9 hK9=>?_)
 go_simp
 go_at_call 146
 rw[<- HW.out]
 refine Calls.mono H1.out ?_
 rintro e w1 ⟨g,cp,g2,cp2,t1,t2,tk,rfl,hk1,⟨A1,A2,A3⟩,⟨⟨e1,e2⟩,⟨e3,e4⟩,e5,e6⟩,h2⟩
 have H2:=hid h2
 clear h2 H1 HW
 refine hK9.out _ _ hk1 (fun hSS=>?_)
 try simp only[Act.put,zA,zB,zC]
 refine Ti 9 rfl ?_
 refine Ti 10 rfl ?_
 refine Ti 11 rfl ?_
 refine Ti 12 rfl ?_
 refine Ti 13 rfl ?_
 try simp only[Act.put,zA,zB,zC]
 refine Ti 14 rfl ?_
 refine Ti 15 rfl ?_
 try simp only[Act.put,zA,zB,zC]
 refine Dn ?_
 clear hSS kS
 have HK1:=hid hk1
 clear hk1
 go_wp2_with fail
 refine Calls.mono A1.out ?_
 rintro e w' ⟨rfl,rfl⟩
 clear A1
 go_wp2_with fail
 refine Calls.mono A2.out ?_
 rintro e w' ⟨rfl,rfl⟩
 clear A2
 have hmx:0<=max t1 t2/\max t1 t2<281474976710656:=by omega
 generalize hmm:max t1 t2=mx at *
 have hwr2:IntKind.i64.wrap (tk+more)=tk+more:=by rw[IntKind.wrap_i64];omega
 go_wp2_with fail
 refine Calls.mono A3.out ?_
 rintro e w' ⟨rfl,rfl⟩
 clear A3
 go_wp2_with fail
 refine Calls.mono H2.out ?_
 rintro e w2 ⟨rfl,h3⟩
 obtain⟨kT,h4⟩:=h3 _ rfl
 have H4:=hid h4
 clear h3 h4 H2
 go_wp2_with fail
 refine Gz (S:=fun w'=>w'.cell? ⟨w.heap.size,0,none⟩=some (.pointer (some ⟨x,0,none⟩))/\w'.cell? ⟨w.heap.size,1,none⟩=some (.int .i64 (sz:Int))/\w'.cell? ⟨w.heap.size,2,none⟩=some (.int .i64 lf)/\w'.cell? ⟨w.heap.size,3,none⟩=some (.pointer (some ⟨t,0,none⟩))/\w'.cell? ⟨x,0,none⟩=some (.int .i64 (f:Int))/\w'.cell? ⟨x,1,none⟩=some (.int .i64 (r:Int))/\w'.cell? ⟨x,2,none⟩=some (.pointer (some ⟨st,0,none⟩))) kT (fun hSS=>?_)
 refine Ti 0 rfl ?_
 refine Ti 1 rfl ?_
 refine Ti 2 rfl ?_
 refine Ti 3 rfl ?_
 refine Ti 4 rfl ?_
 try simp only[Act.put,zA,zB,zC]
 refine Ti 5 rfl ?_
 refine Ti 6 rfl ?_
 refine Ti 7 rfl ?_
 refine Ti 8 rfl ?_
 refine Ti 9 rfl ?_
 try simp only[Act.put,zA,zB,zC]
 refine wpAnyH_take (i:=10) (oi:=({ dst:=some 64,op:=Op.binOp BinOp.add 3 (Operand.tmp 62) (Operand.tmp 63) 3,type:=3,pos:=_,after:=_,guard:=none }:Oper)) (v:=.int .i64 ((f:Int)+(nm:Int))) rfl (by kernel_rfl) (by kernel_rfl) (by kernel_rfl) (fun _ _ _ h=>h) (Or.inl ⟨by rfl,?_⟩) hSS ?_
 ·intro w9 hSw
  (try dsimp only at hSw)
  (try go_split_ands)
  first | (go_simp;done) | (go_simp;simp[hwr];done)
 try simp only[Act.put,zA,zB,zC]
 refine Ti 11 rfl ?_
 try simp only[Act.put,zA,zB,zC]
 refine Ri 12 rfl (fun K9 hK9=>?_)
 go_simp
 go_at_call 52
 refine Calls.mono H4.out ?_
 rintro e w4 ⟨rfl,hk4,hA,hB⟩
 have HA:=hid hA
 have HB:=hid hB
 clear hA hB H4
 refine hK9.out _ _ hk4 (fun hSS=>?_)
 try simp only[Act.put,zA,zB,zC]
 refine Ti 13 rfl ?_
 try simp only[Act.put,zA,zB,zC]
 refine Dn ?_
 clear hSS kT
 obtain⟨v0,v1,v2,v3,v4,v5,v6⟩:=hk4
 by_cases hl:lf=0
 ·have HC:=hid (HB.out hl)
  clear HA HB
  subst hl
  go_wp2_with fail
  refine Calls.mono HC.out ?_
  rintro e w5 ⟨v,rfl,hF⟩
  have FIN:=hid hF
  clear hF HC
  go_wp2
  exact FIN.out
 ·have FIN:=hid (HA.out hl)
  clear HA HB
  go_wp2
  exact FIN.out
theorem trnZ_bd(hb:Pl.isB zs)(i:Nat):0<=trnZ zs i/\trnZ zs i<281474976710656:=by
 unfold trnZ
 have hbb:Pl.isB ((zs.drop (34+8 * i)).take 6):=fun z hz=>hb z (List.mem_of_mem_drop (List.mem_of_mem_take hz))
 refine⟨Pl.num_nonneg hbb,?_⟩
 have h1:=Pl.num_lt hbb
 have hl:((zs.drop (34+8 * i)).take 6).length<=6:=by rw[List.length_take];omega
 generalize ((zs.drop (34+8 * i)).take 6).length=m at *
 have:m=0\/m=1\/m=2\/m=3\/m=4\/m=5\/m=6:=by omega
 rcases this with rfl | rfl | rfl | rfl | rfl | rfl | rfl <;> omega
theorem isPg_splice{off:Nat}{cs:List Int}(h:isPg r j z=true)(ho:21<=off):isPg r j (splice z off cs)=true:=by
 have h1:z.take 21=hdgZ r j:=of_decide_eq_true h
 have hl:21<=z.length:=by
  have:=congrArg List.length h1
  rw[List.length_take,length_hdgZ]at this
  omega
 refine decide_eq_true ?_
 unfold splice
 rw[List.take_append_of_le_length (by rw[List.length_take];omega),List.take_take,Nat.min_eq_left ho]
 exact h1
theorem isPg_put{nm off:Nat}{cs:List Int}(ho:21<=off)(h0:isPg r j (spgA C L f j)=true):isPg r j (spgA C (putL L (f+nm) (splice (spgA C L f nm) off cs)) f j)=true:=by
 by_cases hn:j=nm
 ·subst hn
  have:spgA C (putL L (f+j) (splice (spgA C L f j) off cs)) f j=splice (spgA C L f j) off cs:=by
   show (if f+j=f+j then some _ else L (f+j)).getD _=_
   rw[if_pos rfl]
   rfl
  rw[this]
  exact isPg_splice h0 ho
 ·have:spgA C (putL L (f+nm) (splice (spgA C L f nm) off cs)) f j=spgA C L f j:=by
   show (if f+j=f+nm then some _ else L (f+j)).getD _=_
   rw[if_neg (by omega)]
   rfl
  rw[this]
  exact h0
def turnL (C:Nat->List Int) (L:Nat->Option (List Int)) (f r sz:Nat) (lf:Int) (nm i tk tr:Nat):Nat->Option (List Int) :=
 let L1:=putL L (f+nm) (splice (spgA C L f nm) (32+8 * i) (entZ tk tr))
 if lf=0 then putL L1 f (splice (spgA C L1 f 0) 21 (sheadZ sz ((lfOf (cpg true r 0 (C f))).toNat % 1099511627775+1))) else L1
theorem Opn.turn(h:Opn Y w F K N C t L Ms n)(hK:K+6<4611686018427387904)(hn:n+2<=1073741823)(hx:Spb w x f r F.st)(hY:¬Y x)(sz:Nat)(lf:Int)(hs1:sz<=262144)(hr:r<=262144)(hf1:64<=f)(gk:Nat)(hgk:gk<=1000)(hf2:f+gk / 60<F.nb)(hnb:F.nb<=4611686018427387904)(hp:isPg r (gk / 60) (spgA C L f (gk / 60))=true)(hp0:isPg r 0 (spgA C L f 0)=true)(more:Int)(hm:more=1\/more=-1)(tk tr:Nat)(htk:(tk:Int)=tknZ (spgA C L f (gk / 60)) (gk % 60)+more)(htr:(tr:Int)=max (trnZ (spgA C L f (gk / 60)) (gk % 60)) (trnZ (cpg true r (gk / 60) (C (f+gk / 60))) (gk % 60))+1)(htk1:tk<=65535)(htr1:tr<=281474976710655) :
  Calls Tryz.prog 98 #[.agg #[.pointer (some ⟨x,0,none⟩),.int .i64 (sz:Int),.int .i64 lf,.pointer (some ⟨t,0,none⟩)],.int .i64 (gk:Int),.int .i64 more] w fun e w'=>∃K' n' Y',e=.returned (.int .i64 0)/\(K'<=K+6/\n'<=n+4)/\Opn Y' w' F K' N C t (turnL C L f r sz lf (gk / 60) (gk % 60) tk tr) Ms n'/\Gr Y Y' w/\But Y w w':=by
 refine turn_walk (nm:=gk / 60) (i:=gk % 60) (f:=f) (r:=r) (st:=F.st) (by omega) (by omega) hgk (by omega) hm (fun w0 hw0=>?_)
 have hxl:=hx.lt
 have hlt:=h.lt
 have z0:w0.heap.size=w.heap.size+1:=by rw[hw0];simp
 have b0:Below w.heap.size w w0:=by rw[hw0];exact ((Below.refl _ _).alloc (Nat.le_refl _) _).drew
 have hv0:w0.heap[w.heap.size]?=some (.cells #[.pointer (some ⟨x,0,none⟩),.int .i64 (sz:Int),.int .i64 lf,.pointer (some ⟨t,0,none⟩)] 103 (0,0)):=by rw[hw0];exact World.alloc_heap_new _ _
 have hx0:Spb w0 x f r F.st:=hx.keep (b0.block x hxl)
 have SS:∀V:World,V.heap[w.heap.size]?=some (.cells #[.pointer (some ⟨x,0,none⟩),.int .i64 (sz:Int),.int .i64 lf,.pointer (some ⟨t,0,none⟩)] 103 (0,0))->Spb V x f r F.st->V.cell? ⟨w.heap.size,0,none⟩=some (.pointer (some ⟨x,0,none⟩))/\V.cell? ⟨w.heap.size,1,none⟩=some (.int .i64 (sz:Int))/\V.cell? ⟨w.heap.size,2,none⟩=some (.int .i64 lf)/\V.cell? ⟨w.heap.size,3,none⟩=some (.pointer (some ⟨t,0,none⟩))/\V.cell? ⟨x,0,none⟩=some (.int .i64 (f:Int))/\V.cell? ⟨x,1,none⟩=some (.int .i64 (r:Int))/\V.cell? ⟨x,2,none⟩=some (.pointer (some ⟨F.st,0,none⟩)):=fun V a b=>⟨by simp[World.cell?,a],by simp[World.cell?,a],by simp[World.cell?,a],by simp[World.cell?,a],b.cell 0,b.cell 1,b.cell 2⟩
 refine⟨SS w0 hv0 hx0,?_⟩
 refine Calls.mono ((h.below b0).both (by omega) hx0 hY (sz:Int) lf true (gk / 60) hr (by omega) (by omega) hf2 hp) ?_
 rintro e w1 ⟨g,cp,g2,cp2,Y1,rfl,k1,k2,⟨k3,k3b,k3n⟩,⟨k4,k4b,k4n⟩,k5,k6⟩
 have s1:=k6.size
 have hx1:Spb w1 x f r F.st:=hx0.keep (k6.block x hx0.lt hY)
 have hv1:=(k6.block w.heap.size (by omega) (fun q=>by have:=hlt _ q;omega)).trans hv0
 have tb:=num_take k3b (32+8 * (gk % 60)) 2 (by omega)
 refine⟨g,cp,g2,cp2,_,_,_,rfl,SS w1 hv1 hx1,⟨turnsAt_any k3 k3b (gk % 60) (by omega),turnsAt_any k4 k4b (gk % 60) (by omega),takenAt_any k3 k3b (gk % 60) (by omega)⟩,⟨trnZ_bd k3b _,trnZ_bd k4b _,tb⟩,?_⟩
 change Calls Tryz.prog 150 #[.slice (some ⟨g,0,none⟩) 512 cp,.int .i64 ((gk % 60:Nat):Int),.int .i64 (tknZ (spgA C L f (gk / 60)) (gk % 60)+more),.int .i64 (max (trnZ (spgA C L f (gk / 60)) (gk % 60)) (trnZ (cpg true r (gk / 60) (C (f+gk / 60))) (gk % 60))+1)] w1 _
 rw[<- htk,<- htr]
 refine Calls.mono (putEntry_any k3 (gk % 60) tk tr (by omega) htk1 htr1) ?_
 rintro e w2 ⟨rfl,p1,p2⟩
 refine⟨rfl,fun w3 hw3=>?_⟩
 have s2:=p2.size
 have b23:Below w2.heap.size w2 w3:=by rw[hw3];exact Below.drew1 w2
 have hbB:Pl.isB (splice (spgA C L f (gk / 60)) (32+8 * (gk % 60)) (entZ tk tr)):=isB_splice k3b (isB_entZ _ _) _
 have o2:Opn Y1 w2 F (K+2) N C t L Ms n:=k1.keep p2 (fun q _ e1 e2=>k3n (e1 ▸ e2))
 have o3:=o2.below b23
 have s3:=b23.size
 have keep3:∀k,k<w.heap.size+1->w3.heap[k]?=w1.heap[k]?:=fun k hk=>(b23.block k (by omega)).trans (p2.block k (by omega) (by omega))
 have hx3:Spb w3 x f r F.st:=hx1.keep (keep3 x (by omega))
 have hv3:=(keep3 w.heap.size (by omega)).trans hv1
 refine⟨SS w3 hv3 hx3,?_⟩
 have hO3:=p1.keep (b23.block g p1.lt)
 rw[show (f:Int)+((gk / 60:Nat):Int)=((f+gk / 60:Nat):Int) by omega]
 refine Calls.mono (o3.write (by omega) (by omega) (f+gk / 60) (by omega) hf2 (some ⟨g,0,none⟩) cp _ (hO3.rdn hbB k3n)) ?_
 rintro e w4 ⟨Y4,rfl,q1,q2,q3⟩
 have g1:∀q,q<w0.heap.size->Y1 q->Y q:=fun q a b=>k5 q a b
 have hx4:Spb w4 x f r F.st:=hx3.keep (q3.block x hx3.lt (fun e=>hY (g1 x (by omega) e)))
 have hv4:=(q3.block w.heap.size (by omega) (fun e=>by have:=hlt _ (g1 _ (by omega) e);omega)).trans hv3
 have g4:∀q,q<w0.heap.size->Y4 q->Y q:=fun q a b=>g1 q a (q2 q (by omega) b)
 have bb:But Y w w4:=(((((But.of_below b0 (X:=Y)).trans k6).comp p2 (fun q hq e=>by omega)).comp (But.of_below b23 (X:=fun _=>False)) (fun _ _ e=>e.elim)).comp q3 (fun q hq e=>g1 q (by omega) e))
 have s4:=q3.size
 refine⟨rfl,SS w4 hv4 hx4,fun hl=>?_,fun hl=>?_⟩
 ·refine⟨K+2+1,n+2,Y4,rfl,by omega,?_,fun q hq e=>g4 q (by omega) e,bb⟩
  unfold turnL
  rw[if_neg hl]
  exact q1
 ·refine Calls.mono (q1.bear (by omega) (by omega) hx4 (fun e=>hY (g4 x (by omega) e)) sz lf hs1 hr hf1 (by omega) (isPg_put (by omega) hp0)) ?_
  rintro e w5 ⟨Y5,rfl,r1,r2,r3⟩
  refine⟨0,rfl,K+2+1+3,n+2+2,Y5,rfl,by omega,?_,fun q hq e=>g4 q (by omega) (r2 q (by omega) e),bb.comp r3 (fun q hq e=>g4 q (by omega) e)⟩
  unfold turnL
  rw[if_pos hl]
  exact r1
open Go.RowKit Go.Deep
attribute [local go_sem] Oper.semAt_some
def ChCG (w:World) (x f r st t sz b k s m:Nat) (lf:Int) (cf:Nat) (caps:Array Value) (PO:Ending->World->Prop):Prop :=
 Calls Tryz.prog 86 #[.agg #[.pointer (some ⟨x,0,none⟩),.int .i64 (sz:Int),.int .i64 lf,.pointer (some ⟨t,0,none⟩)],.int .i64 (b:Int)] (w.alloc (.cells #[.pointer (some ⟨x,0,none⟩),.int .i64 (sz:Int),.int .i64 lf,.pointer (some ⟨t,0,none⟩)] 103)) fun e w1=>e=.returned (.bool true) /\
 ∀w2,w2=w1.drew->(w2.cell? ⟨w.heap.size,0,none⟩=some (.pointer (some ⟨x,0,none⟩))/\w2.cell? ⟨w.heap.size,1,none⟩=some (.int .i64 (sz:Int))/\w2.cell? ⟨w.heap.size,2,none⟩=some (.int .i64 lf)/\w2.cell? ⟨w.heap.size,3,none⟩=some (.pointer (some ⟨t,0,none⟩))/\w2.cell? ⟨x,0,none⟩=some (.int .i64 (f:Int))/\w2.cell? ⟨x,1,none⟩=some (.int .i64 (r:Int))/\w2.cell? ⟨x,2,none⟩=some (.pointer (some ⟨st,0,none⟩)))/\Hid (Calls Tryz.prog 89 #[.int .i64 (b:Int)] w2 fun e w'=>e=.returned (.int .i64 (k:Int))/\w'=w2)/\Calls Tryz.prog 88 #[.agg #[.int .i64 (f:Int),.int .i64 (r:Int)],.int .i64 (k:Int)] w2 fun e w3=>e=.returned (.int .i64 (m:Int))/\(w3.cell? ⟨w.heap.size,0,none⟩=some (.pointer (some ⟨x,0,none⟩))/\w3.cell? ⟨w.heap.size,1,none⟩=some (.int .i64 (sz:Int))/\w3.cell? ⟨w.heap.size,2,none⟩=some (.int .i64 lf)/\w3.cell? ⟨w.heap.size,3,none⟩=some (.pointer (some ⟨t,0,none⟩))/\w3.cell? ⟨x,0,none⟩=some (.int .i64 (f:Int))/\w3.cell? ⟨x,1,none⟩=some (.int .i64 (r:Int))/\w3.cell? ⟨x,2,none⟩=some (.pointer (some ⟨st,0,none⟩))) /\
 ∀w4,w4=w3.drew->(w4.cell? ⟨w.heap.size,0,none⟩=some (.pointer (some ⟨x,0,none⟩))/\w4.cell? ⟨w.heap.size,1,none⟩=some (.int .i64 (sz:Int))/\w4.cell? ⟨w.heap.size,2,none⟩=some (.int .i64 lf)/\w4.cell? ⟨w.heap.size,3,none⟩=some (.pointer (some ⟨t,0,none⟩))/\w4.cell? ⟨x,0,none⟩=some (.int .i64 (f:Int))/\w4.cell? ⟨x,1,none⟩=some (.int .i64 (r:Int))/\w4.cell? ⟨x,2,none⟩=some (.pointer (some ⟨st,0,none⟩)))/\Calls Tryz.prog 87 #[.agg #[.int .i64 (f:Int),.int .i64 (r:Int)],.iface 101 (.agg #[.pointer (some ⟨t,0,none⟩)]),.int .i64 (m:Int)] w4 fun e w5=>∃g cp was,e=.returned (.tuple #[.slice (some ⟨g,0,none⟩) 512 cp,.int .i64 0])/\(w5.cell? ⟨w.heap.size,0,none⟩=some (.pointer (some ⟨x,0,none⟩))/\w5.cell? ⟨w.heap.size,1,none⟩=some (.int .i64 (sz:Int))/\w5.cell? ⟨w.heap.size,2,none⟩=some (.int .i64 lf)/\w5.cell? ⟨w.heap.size,3,none⟩=some (.pointer (some ⟨t,0,none⟩))/\w5.cell? ⟨x,0,none⟩=some (.int .i64 (f:Int))/\w5.cell? ⟨x,1,none⟩=some (.int .i64 (r:Int))/\w5.cell? ⟨x,2,none⟩=some (.pointer (some ⟨st,0,none⟩)))/\(w5.cell? ⟨g,32+s,none⟩=some (.int .u8 was)/\0<=was/\was<=255)/\Hid (Calls Tryz.prog 90 #[.int .i64 (b:Int)] w5 fun e w'=>e=.returned (.int .i64 (s:Int))/\w'=w5) /\
 Calls Tryz.prog cf (#[.int .i64 was]++caps) w5 fun e w6=>∃cnt ev,e=.returned (.tuple #[.int .i64 cnt,.int .i64 ev])/\(¬ev=0->PO (.returned (.int .i64 ev)) w6)/\(ev=0->((0<=cnt/\cnt<=255)/\w6.cell? ⟨g,32+s,none⟩=some (.int .u8 was)/\w6.frozen? ⟨g,32+s,none⟩=false) /\
 ∀w7,w7=(w6.setCell ⟨g,32+s,none⟩ (.int .u8 cnt)).drew->(w7.cell? ⟨w.heap.size,0,none⟩=some (.pointer (some ⟨x,0,none⟩))/\w7.cell? ⟨w.heap.size,1,none⟩=some (.int .i64 (sz:Int))/\w7.cell? ⟨w.heap.size,2,none⟩=some (.int .i64 lf)/\w7.cell? ⟨w.heap.size,3,none⟩=some (.pointer (some ⟨t,0,none⟩))/\w7.cell? ⟨x,0,none⟩=some (.int .i64 (f:Int))/\w7.cell? ⟨x,1,none⟩=some (.int .i64 (r:Int))/\w7.cell? ⟨x,2,none⟩=some (.pointer (some ⟨st,0,none⟩)))/\(Hid (Calls Tryz.prog 89 #[.int .i64 (b:Int)] w7 fun e w'=>e=.returned (.int .i64 (k:Int))/\w'=w7)/\Hid (Calls Tryz.prog 99 #[.int .i64 cnt] w7 fun e w'=>e=.returned (.int .i64 (min cnt 1))/\w'=w7)/\Hid (Calls Tryz.prog 99 #[.int .i64 was] w7 fun e w'=>e=.returned (.int .i64 (min was 1))/\w'=w7))/\Calls Tryz.prog 98 #[.agg #[.pointer (some ⟨x,0,none⟩),.int .i64 (sz:Int),.int .i64 lf,.pointer (some ⟨t,0,none⟩)],.int .i64 (k:Int),.int .i64 (min cnt 1-min was 1)] w7 fun e w8=>e=.returned (.int .i64 0)/\(w8.cell? ⟨w.heap.size,0,none⟩=some (.pointer (some ⟨x,0,none⟩))/\w8.cell? ⟨w.heap.size,1,none⟩=some (.int .i64 (sz:Int))/\w8.cell? ⟨w.heap.size,2,none⟩=some (.int .i64 lf)/\w8.cell? ⟨w.heap.size,3,none⟩=some (.pointer (some ⟨t,0,none⟩))/\w8.cell? ⟨x,0,none⟩=some (.int .i64 (f:Int))/\w8.cell? ⟨x,1,none⟩=some (.int .i64 (r:Int))/\w8.cell? ⟨x,2,none⟩=some (.pointer (some ⟨st,0,none⟩))) /\
 ∀w9,w9=w8.drew->(w9.cell? ⟨w.heap.size,0,none⟩=some (.pointer (some ⟨x,0,none⟩))/\w9.cell? ⟨w.heap.size,1,none⟩=some (.int .i64 (sz:Int))/\w9.cell? ⟨w.heap.size,2,none⟩=some (.int .i64 lf)/\w9.cell? ⟨w.heap.size,3,none⟩=some (.pointer (some ⟨t,0,none⟩))/\w9.cell? ⟨x,0,none⟩=some (.int .i64 (f:Int))/\w9.cell? ⟨x,1,none⟩=some (.int .i64 (r:Int))/\w9.cell? ⟨x,2,none⟩=some (.pointer (some ⟨st,0,none⟩)))/\Calls Tryz.prog 52 #[.pointer (some ⟨t,0,none⟩),.int .i64 ((f:Int)+(m:Int)),.slice (some ⟨g,0,none⟩) 512 cp] w9 fun e w10=>∃v,e=.returned (.int .i64 v)/\(w10.cell? ⟨w.heap.size,0,none⟩=some (.pointer (some ⟨x,0,none⟩))/\w10.cell? ⟨w.heap.size,1,none⟩=some (.int .i64 (sz:Int))/\w10.cell? ⟨w.heap.size,2,none⟩=some (.int .i64 lf)/\w10.cell? ⟨w.heap.size,3,none⟩=some (.pointer (some ⟨t,0,none⟩))/\w10.cell? ⟨x,0,none⟩=some (.int .i64 (f:Int))/\w10.cell? ⟨x,1,none⟩=some (.int .i64 (r:Int))/\w10.cell? ⟨x,2,none⟩=some (.pointer (some ⟨st,0,none⟩)))/\PO (.returned (.int .i64 v)) w10)
theorem change_walkG{s:Nat}{cf:Nat}{caps:Array Value}(hcf:∀(gs:Array Value) (u:World),Sem.run Tryz.prog (callFunc cf gs) u=.ok (.enter cf gs) u)(hs:s<480)(hm:m<=1000)(hf:f<=4611686018427387904)(H:ChCG w x f r st t sz b k s m lf cf caps PO) :
  Calls Tryz.prog 54 #[.agg #[.pointer (some ⟨x,0,none⟩),.int .i64 (sz:Int),.int .i64 lf,.pointer (some ⟨t,0,none⟩)],.int .i64 (b:Int),.func (.func cf) #[] caps] w PO:=by
 have H1:=hid H
 have hwr:IntKind.i64.wrap ((f:Int)+(m:Int))=(f:Int)+(m:Int):=by rw[IntKind.wrap_i64];omega
 clear H
 go_enter Tryz.func54,Tryz.ntmps54
 go_wp2_with fail
 refine Calls.mono H1.out ?_
 rintro e w1 ⟨rfl,h2⟩
 obtain⟨kS,A1,h3⟩:=h2 _ rfl
 have H3:=hid h3
 clear h2 h3 H1
 go_wp2_with fail
 refine Gz (S:=fun w'=>w'.cell? ⟨w.heap.size,0,none⟩=some (.pointer (some ⟨x,0,none⟩))/\w'.cell? ⟨w.heap.size,1,none⟩=some (.int .i64 (sz:Int))/\w'.cell? ⟨w.heap.size,2,none⟩=some (.int .i64 lf)/\w'.cell? ⟨w.heap.size,3,none⟩=some (.pointer (some ⟨t,0,none⟩))/\w'.cell? ⟨x,0,none⟩=some (.int .i64 (f:Int))/\w'.cell? ⟨x,1,none⟩=some (.int .i64 (r:Int))/\w'.cell? ⟨x,2,none⟩=some (.pointer (some ⟨st,0,none⟩))) kS (fun hSS=>?_)
 refine Ti 0 rfl ?_
 refine Ti 1 rfl ?_
 refine Ti 2 rfl ?_
 refine Ti 3 rfl ?_
 refine Ti 4 rfl ?_
 refine Ti 5 rfl ?_
 try simp only[Act.put,zA,zB,zC]
 refine Ri 6 rfl (fun K9 hK9=>?_)
 go_simp
 go_at_call 89
 refine Calls.mono A1.out ?_
 rintro e w' ⟨rfl,hw'⟩
 rw[hw']
 clear hw' A1
 refine hK9.out _ _ kS (fun hSS=>?_)
 try simp only[Act.put,zA,zB,zC]
 refine Ri 7 rfl (fun K9 hK9=>?_)
 go_simp
 go_at_call 88
 refine Calls.mono H3.out ?_
 rintro e w3 ⟨rfl,hk3,h4⟩
 obtain⟨kT,h5⟩:=h4 _ rfl
 have H5:=hid h5
 clear h4 h5 H3
 refine hK9.out _ _ hk3 (fun hSS=>?_)
 try simp only[Act.put,zA,zB,zC]
 refine Ti 8 rfl ?_
 try simp only[Act.put,zA,zB,zC]
 refine Dn ?_
 clear hSS kS hk3
 go_wp2_with fail
 refine Gz (S:=fun w'=>w'.cell? ⟨w.heap.size,0,none⟩=some (.pointer (some ⟨x,0,none⟩))/\w'.cell? ⟨w.heap.size,1,none⟩=some (.int .i64 (sz:Int))/\w'.cell? ⟨w.heap.size,2,none⟩=some (.int .i64 lf)/\w'.cell? ⟨w.heap.size,3,none⟩=some (.pointer (some ⟨t,0,none⟩))/\w'.cell? ⟨x,0,none⟩=some (.int .i64 (f:Int))/\w'.cell? ⟨x,1,none⟩=some (.int .i64 (r:Int))/\w'.cell? ⟨x,2,none⟩=some (.pointer (some ⟨st,0,none⟩))) kT (fun hSS=>?_)
 refine Ti 0 rfl ?_
 try simp only[Act.put,zA,zB,zC]
 refine Ti 1 rfl ?_
 refine Ti 2 rfl ?_
 refine Ti 3 rfl ?_
 refine Ti 4 rfl ?_
 refine Ti 5 rfl ?_
 refine Ti 6 rfl ?_
 try simp only[Act.put,zA,zB,zC]
 refine Ti 7 rfl ?_
 refine Ti 8 rfl ?_
 try simp only[Act.put,zA,zB,zC]
 refine Ri 9 rfl (fun K9 hK9=>?_)
 go_simp
 go_at_call 87
 refine Calls.mono H5.out ?_
 rintro e w5 ⟨g,cp,was,rfl,hk5,⟨hc5,hb5,hb6⟩,A2,h6⟩
 have H6:=hid h6
 clear h6 H5
 refine hK9.out _ _ hk5 (fun hSS=>?_)
 try simp only[Act.put,zA,zB,zC]
 refine Ti 10 rfl ?_
 refine Ti 11 rfl ?_
 refine Ti 12 rfl ?_
 refine Ti 13 rfl ?_
 refine Ti 14 rfl ?_
 try simp only[Act.put,zA,zB,zC]
 refine Dn ?_
 clear hSS kT hk5
 go_wp2_with fail
 refine Calls.mono A2.out ?_
 rintro e w' ⟨rfl,rfl⟩
 clear A2
 go_wp2_with fail
 refine Calls.mono H6.out ?_
 rintro e w6 ⟨cnt,ev,rfl,hA,hB⟩
 by_cases hev:ev=0
 ·obtain⟨⟨⟨hn0,hn1⟩,hc6,hf6⟩,h7⟩:=hB hev
  subst hev
  obtain⟨kU,⟨A3,A4,A5⟩,h8⟩:=h7 _ rfl
  have H8:=hid h8
  clear h7 h8 H6 hA hB hc5
  have hwu:IntKind.u8.wrap cnt=cnt:=by rw[IntKind.wrap_u8];omega
  have hwm:IntKind.i64.wrap (min cnt 1-min was 1)=min cnt 1-min was 1:=by rw[IntKind.wrap_i64];omega
  go_wp2_with fail
  refine Gz (S:=fun w'=>w'.cell? ⟨w.heap.size,0,none⟩=some (.pointer (some ⟨x,0,none⟩))/\w'.cell? ⟨w.heap.size,1,none⟩=some (.int .i64 (sz:Int))/\w'.cell? ⟨w.heap.size,2,none⟩=some (.int .i64 lf)/\w'.cell? ⟨w.heap.size,3,none⟩=some (.pointer (some ⟨t,0,none⟩))/\w'.cell? ⟨x,0,none⟩=some (.int .i64 (f:Int))/\w'.cell? ⟨x,1,none⟩=some (.int .i64 (r:Int))/\w'.cell? ⟨x,2,none⟩=some (.pointer (some ⟨st,0,none⟩))) kU (fun hSS=>?_)
  refine Ti 0 rfl ?_
  try simp only[Act.put,zA,zB,zC]
  refine Ti 1 rfl ?_
  refine Ti 3 rfl ?_
  refine Ti 5 rfl ?_
  try simp only[Act.put,zA,zB,zC]
  refine Ri 2 rfl (fun K9 hK9=>?_)
  go_simp
  go_at_call 89
  refine Calls.mono A3.out ?_
  rintro e w' ⟨rfl,hw'⟩
  rw[hw']
  clear hw' A3
  refine hK9.out _ _ kU (fun hSS=>?_)
  try simp only[Act.put,zA,zB,zC]
  refine Ri 4 rfl (fun K9 hK9=>?_)
  go_simp
  go_at_call 99
  refine Calls.mono A4.out ?_
  rintro e w' ⟨rfl,hw'⟩
  rw[hw']
  clear hw' A4
  refine hK9.out _ _ kU (fun hSS=>?_)
  try simp only[Act.put,zA,zB,zC]
  refine Ri 6 rfl (fun K9 hK9=>?_)
  go_simp
  go_at_call 99
  refine Calls.mono A5.out ?_
  rintro e w' ⟨rfl,hw'⟩
  rw[hw']
  clear hw' A5
  refine hK9.out _ _ kU (fun hSS=>?_)
  try simp only[Act.put,zA,zB,zC]
  refine wpAnyH_take (i:=7) (oi:=({ dst:=some 71,op:=Op.binOp BinOp.sub 3 (Operand.tmp 68) (Operand.tmp 70) 3,type:=3,pos:=_,after:=_,guard:=none }:Oper)) (v:=.int .i64 (min cnt 1-min was 1)) rfl (by kernel_rfl) (by kernel_rfl) (by kernel_rfl) (fun _ _ _ h=>h) (Or.inl ⟨by rfl,?_⟩) hSS ?_
  ·intro w9 hSw
   (try dsimp only at hSw)
   (try go_split_ands)
   first | (go_simp;done) | (go_simp;simp[hwm];done)
  try simp only[Act.put,zA,zB,zC]
  refine Ri 8 rfl (fun K9 hK9=>?_)
  go_simp
  go_at_call 98
  refine Calls.mono H8.out ?_
  rintro e w8 ⟨rfl,hk8,h9⟩
  obtain⟨kV,h10⟩:=h9 _ rfl
  have H10:=hid h10
  clear h9 h10 H8
  refine hK9.out _ _ hk8 (fun hSS=>?_)
  try simp only[Act.put,zA,zB,zC]
  refine Ti 9 rfl ?_
  try simp only[Act.put,zA,zB,zC]
  refine Dn ?_
  clear hSS kU hk8
  go_wp2_with fail
  refine Gz (S:=fun w'=>w'.cell? ⟨w.heap.size,0,none⟩=some (.pointer (some ⟨x,0,none⟩))/\w'.cell? ⟨w.heap.size,1,none⟩=some (.int .i64 (sz:Int))/\w'.cell? ⟨w.heap.size,2,none⟩=some (.int .i64 lf)/\w'.cell? ⟨w.heap.size,3,none⟩=some (.pointer (some ⟨t,0,none⟩))/\w'.cell? ⟨x,0,none⟩=some (.int .i64 (f:Int))/\w'.cell? ⟨x,1,none⟩=some (.int .i64 (r:Int))/\w'.cell? ⟨x,2,none⟩=some (.pointer (some ⟨st,0,none⟩))) kV (fun hSS=>?_)
  refine Ti 0 rfl ?_
  refine Ti 1 rfl ?_
  refine Ti 2 rfl ?_
  refine Ti 3 rfl ?_
  try simp only[Act.put,zA,zB,zC]
  refine Ti 4 rfl ?_
  refine Ti 5 rfl ?_
  refine Ti 6 rfl ?_
  refine Ti 7 rfl ?_
  refine Ti 8 rfl ?_
  refine Ti 9 rfl ?_
  try simp only[Act.put,zA,zB,zC]
  refine wpAnyH_take (i:=10) (oi:=({ dst:=some 86,op:=Op.binOp BinOp.add 3 (Operand.tmp 84) (Operand.tmp 85) 3,type:=3,pos:=_,after:=_,guard:=none }:Oper)) (v:=.int .i64 ((f:Int)+(m:Int))) rfl (by kernel_rfl) (by kernel_rfl) (by kernel_rfl) (fun _ _ _ h=>h) (Or.inl ⟨by rfl,?_⟩) hSS ?_
  ·intro w9 hSw
   (try dsimp only at hSw)
   (try go_split_ands)
   first | (go_simp;done) | (go_simp;simp[hwr];done)
  try simp only[Act.put,zA,zB,zC]
  refine Ti 11 rfl ?_
  try simp only[Act.put,zA,zB,zC]
  refine Ri 12 rfl (fun K9 hK9=>?_)
  go_simp
  go_at_call 52
  refine Calls.mono H10.out ?_
  rintro e w10 ⟨v,rfl,hk10,hF⟩
  have FIN:=hid hF
  clear hF H10
  refine hK9.out _ _ hk10 (fun hSS=>?_)
  try simp only[Act.put,zA,zB,zC]
  refine Ti 13 rfl ?_
  try simp only[Act.put,zA,zB,zC]
  refine Dn ?_
  clear hSS kV hk10
  go_wp2
  exact FIN.out
 ·have FIN:=hid (hA hev)
  clear hA hB H6
  go_wp2
  exact FIN.out
end Go.Proofs.YtlefjidbpjkhlaaGreat
