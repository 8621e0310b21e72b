import Derived.Test.YtlefjidbpjkhlaaGreatK46
import Derived.Test.YtlefjidbpjkhlaaGreatK11
set_option maxRecDepth 100000
set_option maxHeartbeats 16000000
namespace Go.Proofs.YtlefjidbpjkhlaaGreat
variable {X Y:Nat->Prop}
variable {w w':World}
variable {F:Cf}
variable {N b f k m r st sz t x:Nat}
variable {C:Nat->List Int}
variable {L:Nat->Option (List Int)}
variable {Ms:List (Nat->Option (List Int))}
variable {cs ct:Nat->Int}
variable {PO:Ending->World->Prop}
open Go.RowKit Go.Deep
def OpnZ (Y:Nat->Prop) (w:World) (F:Cf) (Z N:Nat) (C:Nat->List Int) (t:Nat) (L:Nat->Option (List Int)) (Ms:List (Nat->Option (List Int))):Prop:=∃K n,K<=2000 * Z/\n<=64 * Z/\Opn Y w F K N C t L Ms n
def IdlZ (Y:Nat->Prop) (w:World) (F:Cf) (Z N:Nat) (C:Nat->List Int):Prop:=∃K,K<=2000 * Z/\Idl Y w F K N C
theorem OpnZ.keep{Z:Nat}(h:OpnZ Y w F Z N C t L Ms)(hb:But X w w')(hX:∀k,k<w.heap.size->X k->Y k->False):OpnZ Y w' F Z N C t L Ms:=by
 obtain⟨K,n,h1,h2,h3⟩:=h
 exact⟨K,n,h1,h2,h3.keep hb hX⟩
theorem OpnZ.below{Z:Nat}(h:OpnZ Y w F Z N C t L Ms)(hb:Below w.heap.size w w'):OpnZ Y w' F Z N C t L Ms:=h.keep (X:=fun _=>False) (But.of_below hb) (fun _ _ q _=>q)
theorem OpnZ.lt{Z:Nat}(h:OpnZ Y w F Z N C t L Ms):∀k,Y k->k<w.heap.size:=by
 obtain⟨K,n,h1,h2,h3⟩:=h
 exact h3.lt
theorem OpnZ.mono{Z:Nat}(h:OpnZ Y w F Z N C t L Ms){Z':Nat}(hZ:Z<=Z'):OpnZ Y w F Z' N C t L Ms:=by
 obtain⟨K,n,h1,h2,h3⟩:=h
 exact⟨K,n,by omega,by omega,h3⟩
theorem IdlZ.keep{Z:Nat}(h:IdlZ Y w F Z N C)(hb:But X w w')(hX:∀k,k<w.heap.size->X k->Y k->False):IdlZ Y w' F Z N C:=by
 obtain⟨K,h1,h3⟩:=h
 exact⟨K,h1,h3.keep hb hX⟩
theorem IdlZ.below{Z:Nat}(h:IdlZ Y w F Z N C)(hb:Below w.heap.size w w'):IdlZ Y w' F Z N C:=h.keep (X:=fun _=>False) (But.of_below hb) (fun _ _ q _=>q)
theorem IdlZ.lt{Z:Nat}(h:IdlZ Y w F Z N C):∀k,Y k->k<w.heap.size:=by
 obtain⟨K,h1,h3⟩:=h
 exact h3.lt
theorem IdlZ.begin{Z:Nat}(h:IdlZ Y w F Z N C) :
  Calls Tryz.prog 9 #[.pointer (some ⟨F.st,0,none⟩)] w fun e w'=>∃t Y',e=.returned (.tuple #[.pointer (some ⟨t,0,none⟩),.int .i64 0])/\OpnZ Y' w' F Z N C t (fun _=>none) []/\w.heap.size<=t/\Gr Y Y' w/\But Y w w':=by
 obtain⟨K,h1,h3⟩:=h
 refine Calls.mono h3.begin ?_
 rintro e w' ⟨t,Y',rfl,r1,r2,r3,r4⟩
 exact⟨t,Y',rfl,⟨K,0,h1,by omega,r1⟩,r2,r3,r4⟩
theorem OpnZ.commit{Z:Nat}(h:OpnZ Y w F Z N C t L Ms)(hN:N<1099511627776)(hm:m<=28)(hL:∀y,(L y).isSome->f<=y/\y<f+m) :
  Calls Tryz.prog 13 #[.pointer (some ⟨t,0,none⟩)] w fun e w'=>∃Y',e=.returned (.int .i64 0)/\IdlZ Y' w' F Z (N+1) (fun y=>(L y).getD (C y))/\Gr Y Y' w/\But Y w w':=by
 obtain⟨K,n,h1,h2,h3⟩:=h
 have hk:(homeKeys F.nb L).length<=28:=by
  have hs:(homeKeys F.nb L).Sublist (List.range F.nb):=List.filter_sublist
  have hnd:(homeKeys F.nb L).Nodup:=List.Nodup.sublist hs List.nodup_range
  have:(homeKeys F.nb L).length<=(List.range' f m).length:=by
   refine List.Nodup.length_le_of_subset hnd (fun y hy=>?_)
   obtain⟨_,hy2⟩:=mem_homeKeys.1 hy
   have:=hL y hy2
   exact List.mem_range'_1.2 this
  rw[List.length_range']at this
  omega
 refine Calls.mono (h3.commit hN hk) ?_
 rintro e w' ⟨Y',rfl,r1,_,_,r4,r5⟩
 exact⟨Y',rfl,⟨K,h1,r1⟩,r4,r5⟩
theorem OpnZ.free{Z:Nat}(h:OpnZ Y w F Z N C t L Ms)(hsp:Spb w x f r F.st)(hx:¬Y x)(hZ:Z<16000000)(hT:Tst C L f r F.nb Z sz cs ct) :
  Calls Tryz.prog 39 #[.pointer (some ⟨x,0,none⟩),.pointer (some ⟨t,0,none⟩)] w fun e w'=>∃Y',e=.returned (.tuple #[.int .i64 ((frA cs ct sz).length:Int),.int .i64 0])/\OpnZ Y' w' F (Z+1) N C t L Ms/\Gr Y Y' w/\But Y w w':=by
 obtain⟨K,n,h1,h2,h3⟩:=h
 refine Calls.mono (h3.freeT hsp hx (by omega) hT.tbs) ?_
 rintro e w' ⟨K',Y',rfl,q1,q2,q3,q4⟩
 rw[hT.sum]
 exact⟨Y',rfl,⟨K',n,by omega,by omega,q2⟩,q3,q4⟩
theorem frA_mem :b∈frA cs ct sz ↔ (1<=b/\b<=sz)/\cs b=0/\ct b=0:=by
 unfold frA
 rw[List.mem_filter,List.mem_map]
 constructor
 ·rintro ⟨⟨i,hi,rfl⟩,h⟩
  have:=List.mem_range.1 hi
  simp only[Bool.and_eq_true,beq_iff_eq]at h
  exact⟨by omega,h⟩
 ·rintro ⟨h1,h2,h3⟩
  exact⟨⟨b-1,List.mem_range.2 (by omega),by omega⟩,by simp[h2,h3]⟩
theorem OpnZ.alloc{Z:Nat}(h:OpnZ Y w F Z N C t L Ms)(hsp:Spb w x f r F.st)(hx:¬Y x)(hZ:Z<16000000)(hT:Tst C L f r F.nb Z sz cs ct) :
  Calls Tryz.prog 24 #[.pointer (some ⟨x,0,none⟩),.pointer (some ⟨t,0,none⟩)] w fun e w'=>∃Y' L' cs',((e=.returned (.tuple #[.int .i64 0,.int .i64 64])/\frA cs ct sz=[]/\cs'=cs)\/(∃b:Nat,e=.returned (.tuple #[.int .i64 (b:Int),.int .i64 0])/\(frA cs ct sz).head?=some b/\cs'=upd cs b 1))/\OpnZ Y' w' F (Z+1) N C t L' Ms/\Tst C L' f r F.nb (Z+1) sz cs' ct/\(∀y,y<f\/f+pagesN r<=y->L' y=L y)/\Gr Y Y' w/\But Y w w':=by
 obtain⟨K,n,h1,h2,h3⟩:=h
 have hxl:=hsp.lt
 have hnb:=h3.nb
 have hsz:=hT.sz1
 have hr:=hT.hP.hr
 refine alloc_walk ?_
 refine Calls.mono (h3.lookT hsp hx (by omega) hT.tbs) ?_
 rintro e w1 ⟨Y1,rfl,k1,k2,k3⟩
 refine⟨_,_,rfl,?_⟩
 have s1:=k3.size
 have bA:Below w1.heap.size w1 (w1.alloc (.cells #[.pointer (some ⟨x,0,none⟩),.int .i64 (tsz C L f:Int),.int .i64 (tlf C L f),.pointer (some ⟨t,0,none⟩)] 103)):=(Below.refl _ _).alloc (Nat.le_refl _) _
 have sA:(w1.alloc (.cells #[.pointer (some ⟨x,0,none⟩),.int .i64 (tsz C L f:Int),.int .i64 (tlf C L f),.pointer (some ⟨t,0,none⟩)] 103)).heap.size=w1.heap.size+1:=by simp
 have hvA:(w1.alloc (.cells #[.pointer (some ⟨x,0,none⟩),.int .i64 (tsz C L f:Int),.int .i64 (tlf C L f),.pointer (some ⟨t,0,none⟩)] 103)).heap[w1.heap.size]?=some (.cells #[.pointer (some ⟨x,0,none⟩),.int .i64 (tsz C L f:Int),.int .i64 (tlf C L f),.pointer (some ⟨t,0,none⟩)] 103 (0,0)):=Array.getElem?_push_size
 have spA:=hsp.keep ((bA.block x (by omega)).trans (k3.block x hxl hx))
 have hx1:¬Y1 x:=fun q=>hx (k2 x hxl q)
 refine Calls.mono ((k1.below bA).vlowestFree spA hx1 (by omega) hT.tbs.size.2 hr.2 hT.f1 hT.f2 hT.hP.pg) ?_
 rintro e w2 ⟨K2,Y2,q1,q2,q3,q4,q5⟩
 rw[hT.flat]at q5
 have s2:=q4.size
 have g2:Gr Y Y2 w:=fun q hq e=>k2 q hq (q3 q (by omega) e)
 have b2:But Y w w2:=(k3.comp (But.of_below bA (X:=fun _=>False)) (fun _ _ q=>q.elim)).comp q4 (fun q hq e=>k2 q hq e)
 rcases q5 with ⟨rfl,hnil⟩ | ⟨g,cap,b,rfl,hb,hg,hYg,hgs⟩
 ·exact .inl ⟨rfl,Y2,L,cs,.inl ⟨rfl,hnil,rfl⟩,⟨K2,n,by omega,by omega,q2⟩,hT.mono (by omega),fun _ _=>rfl,g2,b2⟩
 ·refine .inr ⟨g,cap,(b:Int),rfl,fun vb hvb w3 hw3=>?_⟩
  subst hvb
  subst hw3
  have hbm:b∈frA cs ct sz:=List.mem_of_mem_head? (by rw[hb];rfl)
  obtain⟨hb1,hb2,hb3⟩:=frA_mem.1 hbm
  have hv1:¬Y1 w1.heap.size:=fun q=>by have:=k1.lt _ q;omega
  have hv2:¬Y2 w1.heap.size:=fun q=>hv1 (q3 _ (by omega) q)
  have hvb2:=(q4.block w1.heap.size (by omega) hv1).trans hvA
  have hgl:g<w2.heap.size:=by
   rcases Nat.lt_or_ge g w2.heap.size with hh | hh
   ·exact hh
   ·simp[World.cell?,Array.getElem?_eq_none hh]at hg
  have bD:=Below.drew1 w2
  have cells:∀W:World,W.heap[w1.heap.size]?=w2.heap[w1.heap.size]?->W.heap[g]?=w2.heap[g]?->(W.cell? ⟨w1.heap.size,0,none⟩=some (.pointer (some ⟨x,0,none⟩))/\W.cell? ⟨w1.heap.size,1,none⟩=some (.int .i64 (tsz C L f:Int))/\W.cell? ⟨w1.heap.size,2,none⟩=some (.int .i64 (tlf C L f))/\W.cell? ⟨w1.heap.size,3,none⟩=some (.pointer (some ⟨t,0,none⟩))/\W.cell? ⟨g,0,none⟩=some (.int .i64 (b:Int))):=fun W e1 e2=>by
   rw[hvb2]at e1
   refine⟨by simp[World.cell?,e1],by simp[World.cell?,e1],by simp[World.cell?,e1],by simp[World.cell?,e1],?_⟩
   rw[<- hg]
   simp only[World.cell?,e2]
  refine⟨cells _ rfl rfl,?_⟩
  have hx2:¬Y2 x:=fun q=>hx (g2 x hxl q)
  have sp2:=(hsp.keep (b2.block x hxl hx)).keep (bD.block x (by omega))
  obtain⟨c1,c2,c3,c4⟩:=hT.ents (by omega:Z<281474976710655) hb1 (cnt:=1) (by omega)
  have hcn:=hT.cn hb1
  refine Calls.mono ((q2.below bD).change55 (by omega) (by omega) sp2 hx2 hT.tbs (by omega) b (by rw[hsz.2.2];exact hb1) 1 0 (fun _ _=>True) (fun w5 _=>?_) (nTk r (spgA C L f) b 1) (nTr (spgA C L f) (fun j=>C (f+j)) b) (fun _=>⟨by omega,fun _=>?_⟩)) ?_
  ·refine Calls.mono (clo55_any _ w5) ?_
   rintro e w6 ⟨rfl,rfl⟩
   exact⟨rfl,But.refl _ _,trivial⟩
  ·rw[hcn.1]
   exact⟨c1,c2,c3,c4⟩
  ·rintro e w4 ⟨K4,n4,Y4,rfl,r1,r2,r3,r4,_⟩
   rw[if_pos rfl]at r2
   have s3:w2.drew.heap.size=w2.heap.size:=rfl
   refine⟨rfl,cells w4 ((r4.block _ (by omega) hv2).trans rfl) ((r4.block _ (by omega) hYg).trans rfl),Y4,_,_,.inr ⟨b,rfl,hb,rfl⟩,⟨K4,n4,by omega,by omega,r2⟩,hT.chg (by omega) hb1 (by omega),fun y hy=>chgL_else hb1.1 (by omega) hy,fun q hq e=>g2 q hq (r3 q (by omega) e),?_⟩
   exact (b2.comp (But.of_below bD (X:=fun _=>False)) (fun _ _ q=>q.elim)).comp r4 (fun q hq e=>g2 q hq e)
theorem OpnZ.unref{Z:Nat}(h:OpnZ Y w F Z N C t L Ms)(hsp:Spb w x f r F.st)(hx:¬Y x)(hZ:Z<16000000)(hT:Tst C L f r F.nb Z sz cs ct)(b:Nat)(hb:1<=b/\b<=sz) :
  Calls Tryz.prog 26 #[.pointer (some ⟨x,0,none⟩),.pointer (some ⟨t,0,none⟩),.int .i64 (b:Int)] w fun e w'=>∃Y' L' cs',((e=.returned (.tuple #[.int .i64 0,.int .i64 62])/\cs b=0/\cs'=cs)\/(e=.returned (.tuple #[.int .i64 (cs b-1),.int .i64 0])/\¬cs b=0/\cs'=upd cs b (cs b-1)))/\OpnZ Y' w' F (Z+1) N C t L' Ms/\Tst C L' f r F.nb (Z+1) sz cs' ct/\(∀y,y<f\/f+pagesN r<=y->L' y=L y)/\Gr Y Y' w/\But Y w w':=by
 obtain⟨K,n,h1,h2,h3⟩:=h
 have hnb:=h3.nb
 have hsz:=hT.sz1
 have hcn:=hT.cn hb
 have hq:0<=(if cs b=0 then 0 else cs b-1)/\(if cs b=0 then 0 else cs b-1)<=255:=by split <;> omega
 obtain⟨c1,c2,c3,c4⟩:=hT.ents (by omega:Z<281474976710655) hb (cnt:=if cs b=0 then 0 else cs b-1) hq.1
 refine Calls.mono (h3.unrefT hsp hx (by omega) (by omega) hT.tbs (by omega) b (by rw[hsz.2.2];exact hb) hcn.2.2.2 (nTk r (spgA C L f) b (if cs b=0 then 0 else cs b-1)) (nTr (spgA C L f) (fun j=>C (f+j)) b) (fun he=>?_)) ?_
 ·rw[hcn.1]at he
  rw[he]at c1
  rw[he]
  exact⟨by simp at c1 ⊢;omega,c2,by simpa [he] using c3,c4⟩
 ·rintro e w' ⟨K',n',Y',rfl,r1,r2,r3,r4⟩
  rw[hcn.1]at r2 ⊢
  by_cases hz:cs b=0
  ·rw[if_pos hz,if_pos hz]
   rw[if_pos hz,if_neg (by decide)]at r2
   exact⟨Y',L,cs,.inl ⟨rfl,hz,rfl⟩,⟨K',n',by omega,by omega,r2⟩,hT.mono (by omega),fun _ _=>rfl,r3,r4⟩
  ·rw[if_neg hz]at hq
   rw[if_neg hz,if_neg hz]
   rw[if_neg hz,if_pos rfl,if_neg hz]at r2
   exact⟨Y',_,_,.inr ⟨rfl,hz,rfl⟩,⟨K',n',by omega,by omega,r2⟩,hT.chg (by omega) hb hq,fun y hy=>chgL_else hb.1 (by omega) hy,r3,r4⟩
open Go.RowKit Go.Deep
attribute [local go_sem] Oper.semAt_some
def CoC (w:World) (x f r st t:Nat) (b:Int) (k s m:Nat) (PO:Ending->World->Prop):Prop :=
 Calls Tryz.prog 50 #[.pointer (some ⟨x,0,none⟩),.pointer (some ⟨t,0,none⟩)] w fun e w1=>∃sv lv,e=.returned (.tuple #[.agg #[.pointer (some ⟨x,0,none⟩),.int .i64 sv,.int .i64 lv,.pointer (some ⟨t,0,none⟩)],.int .i64 0])/\Calls Tryz.prog 86 #[.agg #[.pointer (some ⟨x,0,none⟩),.int .i64 sv,.int .i64 lv,.pointer (some ⟨t,0,none⟩)],.int .i64 b] (w1.alloc (.cells #[.pointer (some ⟨x,0,none⟩),.int .i64 sv,.int .i64 lv,.pointer (some ⟨t,0,none⟩)] 103)) fun e w2=>(e=.returned (.bool false)/\PO (.returned (.tuple #[.int .i64 0,.int .i64 61])) w2)\/(e=.returned (.bool true)/\∀vb,vb=w1.heap.size->∀w3,w3=w2.drew->(w3.cell? ⟨vb,0,none⟩=some (.pointer (some ⟨x,0,none⟩))/\w3.cell? ⟨vb,1,none⟩=some (.int .i64 sv)/\w3.cell? ⟨vb,2,none⟩=some (.int .i64 lv)/\w3.cell? ⟨vb,3,none⟩=some (.pointer (some ⟨t,0,none⟩))/\w3.cell? ⟨x,0,none⟩=some (.int .i64 (f:Int))/\w3.cell? ⟨x,1,none⟩=some (.int .i64 (r:Int))/\w3.cell? ⟨x,2,none⟩=some (.pointer (some ⟨st,0,none⟩)))/\Hid (Calls Tryz.prog 89 #[.int .i64 b] w3 fun e w'=>e=.returned (.int .i64 (k:Int))/\w'=w3)/\Calls Tryz.prog 88 #[.agg #[.int .i64 (f:Int),.int .i64 (r:Int)],.int .i64 (k:Int)] w3 fun e w4=>e=.returned (.int .i64 (m:Int))/\(w4.cell? ⟨vb,0,none⟩=some (.pointer (some ⟨x,0,none⟩))/\w4.cell? ⟨vb,1,none⟩=some (.int .i64 sv)/\w4.cell? ⟨vb,2,none⟩=some (.int .i64 lv)/\w4.cell? ⟨vb,3,none⟩=some (.pointer (some ⟨t,0,none⟩))/\w4.cell? ⟨x,0,none⟩=some (.int .i64 (f:Int))/\w4.cell? ⟨x,1,none⟩=some (.int .i64 (r:Int))/\w4.cell? ⟨x,2,none⟩=some (.pointer (some ⟨st,0,none⟩)))/\Calls Tryz.prog 87 #[.agg #[.int .i64 (f:Int),.int .i64 (r:Int)],.iface 101 (.agg #[.pointer (some ⟨t,0,none⟩)]),.int .i64 (m:Int)] w4 fun e w5=>∃g cp was,e=.returned (.tuple #[.slice (some ⟨g,0,none⟩) 512 cp,.int .i64 0])/\(w5.cell? ⟨vb,0,none⟩=some (.pointer (some ⟨x,0,none⟩))/\w5.cell? ⟨vb,1,none⟩=some (.int .i64 sv)/\w5.cell? ⟨vb,2,none⟩=some (.int .i64 lv)/\w5.cell? ⟨vb,3,none⟩=some (.pointer (some ⟨t,0,none⟩))/\w5.cell? ⟨x,0,none⟩=some (.int .i64 (f:Int))/\w5.cell? ⟨x,1,none⟩=some (.int .i64 (r:Int))/\w5.cell? ⟨x,2,none⟩=some (.pointer (some ⟨st,0,none⟩)))/\(w5.cell? ⟨g,32+s,none⟩=some (.int .u8 was)/\0<=was/\was<=255)/\Hid (Calls Tryz.prog 90 #[.int .i64 b] w5 fun e w'=>e=.returned (.int .i64 (s:Int))/\w'=w5)/\PO (.returned (.tuple #[.int .i64 was,.int .i64 0])) w5)
theorem count_walk{b:Int}{s:Nat}(hs:s<480)(H:CoC w x f r st t b k s m PO):Calls Tryz.prog 46 #[.pointer (some ⟨x,0,none⟩),.pointer (some ⟨t,0,none⟩),.int .i64 b] w PO:=by
 have H1:=hid H
 clear H
 go_enter Tryz.func46,Tryz.ntmps46
 go_wp2_with fail
 refine Calls.mono H1.out ?_
 rintro e w1 ⟨sv,lv,rfl,h2⟩
 have H2:=hid h2
 clear h2 H1
 go_wp2_with fail
 refine Calls.mono H2.out ?_
 rintro e w2 (⟨rfl,hF⟩ | ⟨rfl,h3⟩)
 ·have FIN:=hid hF
  clear hF H2
  go_wp2
  exact FIN.out
 ·obtain⟨vb,hvb⟩:∃vb,vb=w1.heap.size:=⟨_,rfl⟩
  obtain⟨kS,A1,h4⟩:=h3 vb hvb _ rfl
  have H4:=hid h4
  rw[<- hvb]
  clear h3 h4 H2 hvb
  go_wp2_with fail
  refine Gz (S:=fun w'=>w'.cell? ⟨vb,0,none⟩=some (.pointer (some ⟨x,0,none⟩))/\w'.cell? ⟨vb,1,none⟩=some (.int .i64 sv)/\w'.cell? ⟨vb,2,none⟩=some (.int .i64 lv)/\w'.cell? ⟨vb,3,none⟩=some (.pointer (some ⟨t,0,none⟩))/\w'.cell? ⟨x,0,none⟩=some (.int .i64 (f:Int))/\w'.cell? ⟨x,1,none⟩=some (.int .i64 (r:Int))/\w'.cell? ⟨x,2,none⟩=some (.pointer (some ⟨st,0,none⟩))) kS (fun hSS=>?_)
  refine Ti 0 rfl ?_
  refine Ti 1 rfl ?_
  refine Ti 2 rfl ?_
  refine Ti 3 rfl ?_
  refine Ti 4 rfl ?_
  refine Ti 5 rfl ?_
  try simp only[Act.put,zA,zB,zC]
  refine Ti 6 rfl ?_
  refine Ti 7 rfl ?_
  refine Ti 8 rfl ?_
  refine Ti 9 rfl ?_
  refine Ti 10 rfl ?_
  refine Ti 11 rfl ?_
  try simp only[Act.put,zA,zB,zC]
  refine Ti 12 rfl ?_
  refine Ti 13 rfl ?_
  try simp only[Act.put,zA,zB,zC]
  refine Ri 14 rfl (fun K9 hK9=>?_)
  go_simp
  go_at_call 89
  refine Calls.mono A1.out ?_
  rintro e w' ⟨rfl,hw'⟩
  rw[hw']
  clear hw' A1
  refine hK9.out _ _ kS (fun hSS=>?_)
  try simp only[Act.put,zA,zB,zC]
  refine Ri 15 rfl (fun K9 hK9=>?_)
  go_simp
  go_at_call 88
  refine Calls.mono H4.out ?_
  rintro e w4 ⟨rfl,hk4,h5⟩
  have H5:=hid h5
  clear h5 H4
  refine hK9.out _ _ hk4 (fun hSS=>?_)
  try simp only[Act.put,zA,zB,zC]
  refine Ri 16 rfl (fun K9 hK9=>?_)
  go_simp
  go_at_call 87
  refine Calls.mono H5.out ?_
  rintro e w5 ⟨g,cp,was,rfl,hk5,⟨hc5,hb5,hb6⟩,A2,hF⟩
  have FIN:=hid hF
  clear hF H5
  refine hK9.out _ _ hk5 (fun hSS=>?_)
  try simp only[Act.put,zA,zB,zC]
  refine Ti 17 rfl ?_
  refine Ti 18 rfl ?_
  refine Ti 19 rfl ?_
  refine Ti 20 rfl ?_
  refine Ti 21 rfl ?_
  try simp only[Act.put,zA,zB,zC]
  refine Dn ?_
  clear hSS kS hk4 hk5
  have hwc:IntKind.i64.wrap was=was:=by rw[IntKind.wrap_i64];omega
  go_wp2_with fail
  refine Calls.mono A2.out ?_
  rintro e w' ⟨rfl,rfl⟩
  clear A2
  go_wp2
  exact FIN.out
end Go.Proofs.YtlefjidbpjkhlaaGreat
