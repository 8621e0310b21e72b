import Derived.Test.YtlefjidbpjkhlaaGreatD46
import Derived.Test.YtlefjidbpjkhlaaGreatD07
set_option maxRecDepth 100000
set_option maxHeartbeats 16000000
namespace Go.Proofs.YtlefjidbpjkhlaaGreat
variable {X Y:Nat->Prop}
variable {W w w':World}
variable {F:Cf}
variable {B N b f i k m r sz t x:Nat}
variable {C:Nat->List Int}
variable {L:Nat->Option (List Int)}
variable {Ms:List (Nat->Option (List Int))}
variable {cs ct:Nat->Int}
variable {tv:Value}
open Go.RowKit Go.Deep
def OpnZ (Y:Nat->Prop) (w:World) (F:Cf) (Z N:Nat) (C:Nat->List Int) (t:Nat) (L:Nat->Option (List Int)) (Ms:List (Nat->Option (List Int))):Prop:=∃K n,K<=2000 * Z/\n<=64 * Z/\Opn Y w F K N C t L Ms n
def IdlZ (Y:Nat->Prop) (w:World) (F:Cf) (Z N:Nat) (C:Nat->List Int):Prop:=∃K,K<=2000 * Z/\Idl Y w F K N C
theorem OpnZ.keep{Z:Nat}(h:OpnZ Y w F Z N C t L Ms)(hb:But X w w')(hX:∀k,k<w.heap.size->X k->Y k->False):OpnZ Y w' F Z N C t L Ms:=by
 obtain⟨K,n,h1,h2,h3⟩:=h
 exact⟨K,n,h1,h2,h3.keep hb hX⟩
theorem OpnZ.lt{Z:Nat}(h:OpnZ Y w F Z N C t L Ms):∀k,Y k->k<w.heap.size:=by
 obtain⟨K,n,h1,h2,h3⟩:=h
 exact h3.lt
theorem OpnZ.mono{Z:Nat}(h:OpnZ Y w F Z N C t L Ms){Z':Nat}(hZ:Z<=Z'):OpnZ Y w F Z' N C t L Ms:=by
 obtain⟨K,n,h1,h2,h3⟩:=h
 exact⟨K,n,by omega,by omega,h3⟩
theorem IdlZ.begin{Z:Nat}(h:IdlZ Y w F Z N C) :
  Calls Tryz.prog 9 #[.pointer (some ⟨F.st,0,none⟩)] w fun e w'=>∃t Y',e=.returned (.tuple #[.pointer (some ⟨t,0,none⟩),.int .i64 0])/\OpnZ Y' w' F Z N C t (fun _=>none) []/\w.heap.size<=t/\Gr Y Y' w/\But Y w w':=by
 obtain⟨K,h1,h3⟩:=h
 refine Calls.mono h3.begin ?_
 rintro e w' ⟨t,Y',rfl,r1,r2,r3,r4⟩
 exact⟨t,Y',rfl,⟨K,0,h1,by omega,r1⟩,r2,r3,r4⟩
theorem OpnZ.commit{Z:Nat}(h:OpnZ Y w F Z N C t L Ms)(hN:N<1099511627776)(hm:m<=28)(hL:∀y,(L y).isSome->f<=y/\y<f+m) :
  Calls Tryz.prog 13 #[.pointer (some ⟨t,0,none⟩)] w fun e w'=>∃Y',e=.returned (.int .i64 0)/\IdlZ Y' w' F Z (N+1) (fun y=>(L y).getD (C y))/\Gr Y Y' w/\But Y w w':=by
 obtain⟨K,n,h1,h2,h3⟩:=h
 have hk:(homeKeys F.nb L).length<=28:=by
  have hs:(homeKeys F.nb L).Sublist (List.range F.nb):=List.filter_sublist
  have hnd:(homeKeys F.nb L).Nodup:=List.Nodup.sublist hs List.nodup_range
  have:(homeKeys F.nb L).length<=(List.range' f m).length:=by
   refine List.Nodup.length_le_of_subset hnd (fun y hy=>?_)
   obtain⟨_,hy2⟩:=mem_homeKeys.1 hy
   have:=hL y hy2
   exact List.mem_range'_1.2 this
  rw[List.length_range']at this
  omega
 refine Calls.mono (h3.commit hN hk) ?_
 rintro e w' ⟨Y',rfl,r1,_,_,r4,r5⟩
 exact⟨Y',rfl,⟨K,h1,r1⟩,r4,r5⟩
theorem OpnZ.abort{Z:Nat}(h:OpnZ Y w F Z N C t L Ms) :
  Calls Tryz.prog 14 #[.pointer (some ⟨t,0,none⟩)] w fun e w'=>∃Y',e=.returned (.int .i64 0)/\IdlZ Y' w' F Z N C/\Gr Y Y' w/\But Y w w':=by
 obtain⟨K,n,h1,h2,h3⟩:=h
 refine Calls.mono h3.abort ?_
 rintro e w' ⟨Y',rfl,r1,_,_,r4,r5⟩
 exact⟨Y',rfl,⟨K,h1,r1⟩,r4,r5⟩
theorem OpnZ.free{Z:Nat}(h:OpnZ Y w F Z N C t L Ms)(hsp:Spb w x f r F.st)(hx:¬Y x)(hZ:Z<16000000)(hT:Tst C L f r F.nb Z sz cs ct) :
  Calls Tryz.prog 39 #[.pointer (some ⟨x,0,none⟩),.pointer (some ⟨t,0,none⟩)] w fun e w'=>∃Y',e=.returned (.tuple #[.int .i64 ((frA cs ct sz).length:Int),.int .i64 0])/\OpnZ Y' w' F (Z+1) N C t L Ms/\Gr Y Y' w/\But Y w w':=by
 obtain⟨K,n,h1,h2,h3⟩:=h
 refine Calls.mono (h3.freeT hsp hx (by omega) hT.tbs) ?_
 rintro e w' ⟨K',Y',rfl,q1,q2,q3,q4⟩
 rw[hT.sum]
 exact⟨Y',rfl,⟨K',n,by omega,by omega,q2⟩,q3,q4⟩
theorem frA_mem :b∈frA cs ct sz ↔ (1<=b/\b<=sz)/\cs b=0/\ct b=0:=by
 unfold frA
 rw[List.mem_filter,List.mem_map]
 constructor
 ·rintro ⟨⟨i,hi,rfl⟩,h⟩
  have:=List.mem_range.1 hi
  simp only[Bool.and_eq_true,beq_iff_eq]at h
  exact⟨by omega,h⟩
 ·rintro ⟨h1,h2,h3⟩
  exact⟨⟨b-1,List.mem_range.2 (by omega),by omega⟩,by simp[h2,h3]⟩
theorem OpnZ.alloc{Z:Nat}(h:OpnZ Y w F Z N C t L Ms)(hsp:Spb w x f r F.st)(hx:¬Y x)(hZ:Z<16000000)(hT:Tst C L f r F.nb Z sz cs ct) :
  Calls Tryz.prog 24 #[.pointer (some ⟨x,0,none⟩),.pointer (some ⟨t,0,none⟩)] w fun e w'=>∃Y' L' cs',((e=.returned (.tuple #[.int .i64 0,.int .i64 64])/\frA cs ct sz=[]/\cs'=cs)\/(∃b:Nat,e=.returned (.tuple #[.int .i64 (b:Int),.int .i64 0])/\(frA cs ct sz).head?=some b/\cs'=upd cs b 1))/\OpnZ Y' w' F (Z+1) N C t L' Ms/\Tst C L' f r F.nb (Z+1) sz cs' ct/\(∀y,y<f\/f+pagesN r<=y->L' y=L y)/\Gr Y Y' w/\But Y w w':=by
 obtain⟨K,n,h1,h2,h3⟩:=h
 have hxl:=hsp.lt
 have hnb:=h3.nb
 have hsz:=hT.sz1
 have hr:=hT.hP.hr
 refine alloc_walk ?_
 refine Calls.mono (h3.lookT hsp hx (by omega) hT.tbs) ?_
 rintro e w1 ⟨Y1,rfl,k1,k2,k3⟩
 refine⟨_,_,rfl,?_⟩
 have s1:=k3.size
 have bA:Below w1.heap.size w1 (w1.alloc (.cells #[.pointer (some ⟨x,0,none⟩),.int .i64 (tsz C L f:Int),.int .i64 (tlf C L f),.pointer (some ⟨t,0,none⟩)] 103)):=(Below.refl _ _).alloc (Nat.le_refl _) _
 have sA:(w1.alloc (.cells #[.pointer (some ⟨x,0,none⟩),.int .i64 (tsz C L f:Int),.int .i64 (tlf C L f),.pointer (some ⟨t,0,none⟩)] 103)).heap.size=w1.heap.size+1:=by simp
 have hvA:(w1.alloc (.cells #[.pointer (some ⟨x,0,none⟩),.int .i64 (tsz C L f:Int),.int .i64 (tlf C L f),.pointer (some ⟨t,0,none⟩)] 103)).heap[w1.heap.size]?=some (.cells #[.pointer (some ⟨x,0,none⟩),.int .i64 (tsz C L f:Int),.int .i64 (tlf C L f),.pointer (some ⟨t,0,none⟩)] 103 (0,0)):=Array.getElem?_push_size
 have spA:=hsp.keep ((bA.block x (by omega)).trans (k3.block x hxl hx))
 have hx1:¬Y1 x:=fun q=>hx (k2 x hxl q)
 refine Calls.mono ((k1.below bA).vlowestFree spA hx1 (by omega) hT.tbs.size.2 hr.2 hT.f1 hT.f2 hT.hP.pg) ?_
 rintro e w2 ⟨K2,Y2,q1,q2,q3,q4,q5⟩
 rw[hT.flat]at q5
 have s2:=q4.size
 have g2:Gr Y Y2 w:=fun q hq e=>k2 q hq (q3 q (by omega) e)
 have b2:But Y w w2:=(k3.comp (But.of_below bA (X:=fun _=>False)) (fun _ _ q=>q.elim)).comp q4 (fun q hq e=>k2 q hq e)
 rcases q5 with ⟨rfl,hnil⟩ | ⟨g,cap,b,rfl,hb,hg,hYg,hgs⟩
 ·exact .inl ⟨rfl,Y2,L,cs,.inl ⟨rfl,hnil,rfl⟩,⟨K2,n,by omega,by omega,q2⟩,hT.mono (by omega),fun _ _=>rfl,g2,b2⟩
 ·refine .inr ⟨g,cap,(b:Int),rfl,fun vb hvb w3 hw3=>?_⟩
  subst hvb
  subst hw3
  have hbm:b∈frA cs ct sz:=List.mem_of_mem_head? (by rw[hb];rfl)
  obtain⟨hb1,hb2,hb3⟩:=frA_mem.1 hbm
  have hv1:¬Y1 w1.heap.size:=fun q=>by have:=k1.lt _ q;omega
  have hv2:¬Y2 w1.heap.size:=fun q=>hv1 (q3 _ (by omega) q)
  have hvb2:=(q4.block w1.heap.size (by omega) hv1).trans hvA
  have hgl:g<w2.heap.size:=by
   rcases Nat.lt_or_ge g w2.heap.size with hh | hh
   ·exact hh
   ·simp[World.cell?,Array.getElem?_eq_none hh]at hg
  have bD:=Below.drew1 w2
  have cells:∀W:World,W.heap[w1.heap.size]?=w2.heap[w1.heap.size]?->W.heap[g]?=w2.heap[g]?->(W.cell? ⟨w1.heap.size,0,none⟩=some (.pointer (some ⟨x,0,none⟩))/\W.cell? ⟨w1.heap.size,1,none⟩=some (.int .i64 (tsz C L f:Int))/\W.cell? ⟨w1.heap.size,2,none⟩=some (.int .i64 (tlf C L f))/\W.cell? ⟨w1.heap.size,3,none⟩=some (.pointer (some ⟨t,0,none⟩))/\W.cell? ⟨g,0,none⟩=some (.int .i64 (b:Int))):=fun W e1 e2=>by
   rw[hvb2]at e1
   refine⟨by simp[World.cell?,e1],by simp[World.cell?,e1],by simp[World.cell?,e1],by simp[World.cell?,e1],?_⟩
   rw[<- hg]
   simp only[World.cell?,e2]
  refine⟨cells _ rfl rfl,?_⟩
  have hx2:¬Y2 x:=fun q=>hx (g2 x hxl q)
  have sp2:=(hsp.keep (b2.block x hxl hx)).keep (bD.block x (by omega))
  obtain⟨c1,c2,c3,c4⟩:=hT.ents (by omega:Z<281474976710655) hb1 (cnt:=1) (by omega)
  have hcn:=hT.cn hb1
  refine Calls.mono ((q2.below bD).change55 (by omega) (by omega) sp2 hx2 hT.tbs (by omega) b (by rw[hsz.2.2];exact hb1) 1 0 (fun _ _=>True) (fun w5 _=>?_) (nTk r (spgA C L f) b 1) (nTr (spgA C L f) (fun j=>C (f+j)) b) (fun _=>⟨by omega,fun _=>?_⟩)) ?_
  ·refine Calls.mono (clo55_any _ w5) ?_
   rintro e w6 ⟨rfl,rfl⟩
   exact⟨rfl,But.refl _ _,trivial⟩
  ·rw[hcn.1]
   exact⟨c1,c2,c3,c4⟩
  ·rintro e w4 ⟨K4,n4,Y4,rfl,r1,r2,r3,r4,_⟩
   rw[if_pos rfl]at r2
   have s3:w2.drew.heap.size=w2.heap.size:=rfl
   refine⟨rfl,cells w4 ((r4.block _ (by omega) hv2).trans rfl) ((r4.block _ (by omega) hYg).trans rfl),Y4,_,_,.inr ⟨b,rfl,hb,rfl⟩,⟨K4,n4,by omega,by omega,r2⟩,hT.chg (by omega) hb1 (by omega),fun y hy=>chgL_else hb1.1 (by omega) hy,fun q hq e=>g2 q hq (r3 q (by omega) e),?_⟩
   exact (b2.comp (But.of_below bD (X:=fun _=>False)) (fun _ _ q=>q.elim)).comp r4 (fun q hq e=>g2 q hq e)
theorem OpnZ.unref{Z:Nat}(h:OpnZ Y w F Z N C t L Ms)(hsp:Spb w x f r F.st)(hx:¬Y x)(hZ:Z<16000000)(hT:Tst C L f r F.nb Z sz cs ct)(b:Nat)(hb:1<=b/\b<=sz) :
  Calls Tryz.prog 26 #[.pointer (some ⟨x,0,none⟩),.pointer (some ⟨t,0,none⟩),.int .i64 (b:Int)] w fun e w'=>∃Y' L' cs',((e=.returned (.tuple #[.int .i64 0,.int .i64 62])/\cs b=0/\cs'=cs)\/(e=.returned (.tuple #[.int .i64 (cs b-1),.int .i64 0])/\¬cs b=0/\cs'=upd cs b (cs b-1)))/\OpnZ Y' w' F (Z+1) N C t L' Ms/\Tst C L' f r F.nb (Z+1) sz cs' ct/\(∀y,y<f\/f+pagesN r<=y->L' y=L y)/\Gr Y Y' w/\But Y w w':=by
 obtain⟨K,n,h1,h2,h3⟩:=h
 have hnb:=h3.nb
 have hsz:=hT.sz1
 have hcn:=hT.cn hb
 have hq:0<=(if cs b=0 then 0 else cs b-1)/\(if cs b=0 then 0 else cs b-1)<=255:=by split <;> omega
 obtain⟨c1,c2,c3,c4⟩:=hT.ents (by omega:Z<281474976710655) hb (cnt:=if cs b=0 then 0 else cs b-1) hq.1
 refine Calls.mono (h3.unrefT hsp hx (by omega) (by omega) hT.tbs (by omega) b (by rw[hsz.2.2];exact hb) hcn.2.2.2 (nTk r (spgA C L f) b (if cs b=0 then 0 else cs b-1)) (nTr (spgA C L f) (fun j=>C (f+j)) b) (fun he=>?_)) ?_
 ·rw[hcn.1]at he
  rw[he]at c1
  rw[he]
  exact⟨by simp at c1 ⊢;omega,c2,by simpa [he] using c3,c4⟩
 ·rintro e w' ⟨K',n',Y',rfl,r1,r2,r3,r4⟩
  rw[hcn.1]at r2 ⊢
  by_cases hz:cs b=0
  ·rw[if_pos hz,if_pos hz]
   rw[if_pos hz,if_neg (by decide)]at r2
   exact⟨Y',L,cs,.inl ⟨rfl,hz,rfl⟩,⟨K',n',by omega,by omega,r2⟩,hT.mono (by omega),fun _ _=>rfl,r3,r4⟩
  ·rw[if_neg hz]at hq
   rw[if_neg hz,if_neg hz]
   rw[if_neg hz,if_pos rfl,if_neg hz]at r2
   exact⟨Y',_,_,.inr ⟨rfl,hz,rfl⟩,⟨K',n',by omega,by omega,r2⟩,hT.chg (by omega) hb hq,fun y hy=>chgL_else hb.1 (by omega) hy,r3,r4⟩
open Go.RowKit Go.Deep
theorem frA_sorted(cs ct:Nat->Int)(sz:Nat):(frA cs ct sz).Pairwise (·<·):=by
 unfold frA
 refine List.Pairwise.filter _ ?_
 rw[List.pairwise_map]
 exact List.pairwise_lt_range.imp (fun h=>by omega)
theorem frA_len(cs ct:Nat->Int)(sz:Nat):(frA cs ct sz).length<=sz:=by
 unfold frA
 refine Nat.le_trans (List.length_filter_le _ _) ?_
 rw[List.length_map,List.length_range]
 exact Nat.le_refl _
theorem frA_upd{l:List Nat}(h:(frA cs ct sz)=b :: l):frA (upd cs b 1) ct sz=l:=by
 have h1:frA (upd cs b 1) ct sz=(frA cs ct sz).filter (fun x=>x != b):=by
  unfold frA
  rw[List.filter_filter]
  refine List.filter_congr (fun x _=>?_)
  unfold upd
  by_cases e:x=b
  ·rw[if_pos e];simp[e]
  ·rw[if_neg e];simp[e]
 have hs:=frA_sorted cs ct sz
 rw[h1,h]
 rw[h]at hs
 have hp:=(List.pairwise_cons.1 hs).1
 rw[List.filter_cons_of_neg (by simp),List.filter_eq_self]
 intro x hx
 have:=hp x hx
 simp
 omega
def DrI (Y:Nat->Prop) (w:World) (F:Cf) (Z N:Nat) (C:Nat->List Int) (t:Nat) (L:Nat->Option (List Int)) (Ms:List (Nat->Option (List Int))) (f r sz:Nat) (cs ct:Nat->Int) (i:Nat) (tv:Value) (W:World):Prop :=
 ∃Y' L' cs',(W.ownsRow w.heap.size 3 1 tv i (((frA cs ct sz).take i).map (fun b:Nat=>Value.int .i64 (b:Int)))/\(i=0->tv=.slice none 0 0))/\(∀q,tv.ownBlock=some q->¬Y' q)/\OpnZ Y' W F (Z+2 * i+1) N C t L' Ms/\Tst C L' f r F.nb (Z+2 * i+1) sz cs' ct/\frA cs' ct sz=(frA cs ct sz).drop i/\(∀b,cs' b=if b∈(frA cs ct sz).take i then 1 else cs b)/\(∀y,y<f\/f+pagesN r<=y->L' y=L y)/\Gr Y Y' w/\But Y w W
section
variable {Y:Nat->Prop} {w:World} {F:Cf} {Z N:Nat} {C:Nat->List Int} {t:Nat} {L:Nat->Option (List Int)} {Ms:List (Nat->Option (List Int))} {x f r sz:Nat} {cs ct:Nat->Int}
theorem DrI.round(h:DrI Y w F Z N C t L Ms f r sz cs ct i tv W)(hsp:Spb w x f r F.st)(hx:¬Y x)(hZ:Z+2 * i+3<16000000)(hb:(frA cs ct sz)[i]?=some b) :
  Calls Tryz.prog 24 #[.pointer (some ⟨x,0,none⟩),.pointer (some ⟨t,0,none⟩)] W fun e w1=>e=.returned (.tuple #[.int .i64 (b:Int),.int .i64 0])/\Calls Tryz.prog 39 #[.pointer (some ⟨x,0,none⟩),.pointer (some ⟨t,0,none⟩)] w1 fun e w2=>e=.returned (.tuple #[.int .i64 (((frA cs ct sz).length-(i+1):Nat):Int),.int .i64 0])/\w.heap.size<=w2.heap.size/\(w2.ownsRow w.heap.size 3 1 tv i (((frA cs ct sz).take i).map (fun b:Nat=>Value.int .i64 (b:Int)))/\(i=0->tv=.slice none 0 0))/\∃v' w3,(Builtin.append_ #[37,37] 37 #[tv,.slice (some ⟨w2.heap.size,0,none⟩) 1 1]).run Tryz.prog (w2.alloc (.cells #[.int .i64 (b:Int)] 3))=.ok v' w3/\DrI Y w F Z N C t L Ms f r sz cs ct (i+1) v' w3:=by
 obtain⟨Y',L',cs',⟨h1,h1z⟩,h2,h3,h4,h5,h6,h7,h8,h9⟩:=h
 have hil:=(List.getElem?_eq_some_iff.1 hb).1
 have hdr:(frA cs ct sz).drop i=b :: (frA cs ct sz).drop (i+1):=by
  rw[List.drop_eq_getElem_cons hil,(List.getElem?_eq_some_iff.1 hb).2]
 have hxl:=hsp.lt
 have s9:=h9.size
 have sp1:=hsp.keep (h9.block x hxl hx)
 have hx1:¬Y' x:=fun q=>hx (h8 x hxl q)
 refine Calls.mono (h3.alloc sp1 hx1 (by omega) h4) ?_
 rintro e w1 ⟨Y1,L1,cs1,hc,k1,k2,k3,k4,k5⟩
 rw[h5,hdr]at hc
 rcases hc with ⟨_,q,_⟩ | ⟨b',rfl,hb',rfl⟩
 ·cases q
 ·cases hb'
  refine⟨rfl,?_⟩
  have sp2:=sp1.keep (k5.block x (by omega) hx1)
  have hx2:¬Y1 x:=fun q=>hx1 (k4 x (by omega) q)
  have hfr:frA (upd cs' b 1) ct sz=(frA cs ct sz).drop (i+1):=frA_upd (by rw[h5,hdr])
  refine Calls.mono (k1.free sp2 hx2 (by omega) k2) ?_
  rintro e w2 ⟨Y2,rfl,q1,q2,q3⟩
  have s5:=k5.size
  have s3:=q3.size
  have g2:Gr Y' Y2 W:=fun q hq e=>k4 q hq (q2 q (by omega) e)
  have b2:But Y' W w2:=k5.comp q3 (fun q hq e=>k4 q hq e)
  have hown2:w2.ownsRow w.heap.size 3 1 tv i (((frA cs ct sz).take i).map (fun b:Nat=>Value.int .i64 (b:Int))):=owns_keep h1 (fun g' e=>b2.block g' (World.ownsRow.lt h1 g' e).2 (h2 g' e))
  obtain⟨i0,hi3,hz0,hz1,hz2⟩:=info_parts info3
  have hlen:i+1<=262144:=by
   have:=frA_len cs ct sz
   have:=h4.sz1
   have:=h4.hP.hr
   omega
  obtain⟨v',w3,hrun,hown,hgr,_,hob⟩:=run_append_own_at (P:=Tryz.prog) (w2.alloc (.cells #[.int .i64 (b:Int)] 3)) w.heap.size 37 37 3 i0 (.int .i64 0) 1 8 Tryz.underlying37 hi3 hz0 hz1 hz2 rfl (by decide) tv i _ (hown2.alloc _) ⟨w2.heap.size,0,none⟩ 1 1 [.int .i64 (b:Int)] rfl (cell_one_new _ _ _) (by simp[Value.oneCell']) (by unfold maxLen;omega) (by omega) (by simp;omega)
  refine⟨by rw[hfr,List.length_drop],by omega,⟨hown2,h1z⟩,v',w3,hrun,?_⟩
  have bX:But (fun q=>tv.ownBlock=some q\/w2.heap.size<=q) w2 w3:=((But.refl (fun q=>tv.ownBlock=some q\/w2.heap.size<=q) w2).alloc _).of_grown hgr (fun x e _=>.inl e)
  have hY2:∀q,tv.ownBlock=some q->¬Y2 q:=fun q e e2=>h2 q e (g2 q (World.ownsRow.lt h1 q e).2 e2)
  have hlt2:=q1.lt
  have s4:=bX.size
  refine⟨Y2,L1,upd cs' b 1,?_,fun q e e2=>?_,q1.keep bX (fun k hk e e2=>?_),k2.mono (by omega),hfr,fun b1=>?_,fun y hy=>(k3 y hy).trans (h7 y hy),fun q hq e=>h8 q hq (g2 q (by omega) e),?_⟩
  ·refine⟨?_,fun q=>by omega⟩
   rw[List.take_add_one,hb]
   simpa using hown
  ·have hl:=hlt2 q e2
   rw[e]at hob
   rcases hob with hob | hob
   ·exact hY2 q hob.symm e2
   ·injection hob with hob
    rw[hob]at hl
    simp at hl
    omega
  ·rcases e with e | e
   ·exact hY2 k e e2
   ·omega
  ·unfold upd
   rw[h6 b1,List.take_add_one,hb]
   simp only[Option.toList_some,List.mem_append,List.mem_singleton]
   by_cases e:b1=b
   ·rw[if_pos e,if_pos (.inr e)]
   ·rw[if_neg e]
    by_cases e2:b1∈(frA cs ct sz).take i
    ·rw[if_pos e2,if_pos (.inl e2)]
    ·rw[if_neg e2,if_neg (fun q=>q.elim e2 e)]
  ·refine (h9.comp b2 (fun q hq e=>h8 q hq e)).comp bX (fun q hq e=>?_)
   rcases e with e | e
   ·have:=(World.ownsRow.lt h1 q e).1
    omega
   ·omega
end
theorem row_lastI{g cap:Nat}{l:List Nat}(h:w.ownsRow B 3 1 (.slice (some ⟨g,0,none⟩) (k+1) cap) (k+1) ((l).map (fun b:Nat=>Value.int .i64 (b:Int)))){a:Nat}(ha:l[k]?=some a):w.cell? ⟨g,k,none⟩=some (.int .i64 (a:Int)):=by
 rcases h.2 with ⟨q,_⟩ | ⟨g',c',cur,q,_,hg,_,_,_,q2⟩
 ·cases q
 ·cases q
  have e:(cur.toList.take ((k+1) * 1))[k]?=some (.int .i64 (a:Int)):=by
   rw[q2,List.getElem?_map,ha]
   rfl
  rw[List.getElem?_take_of_lt (by omega)]at e
  simp only[World.cell?,hg]
  simpa using e
theorem drained_any{Z:Nat}(h:OpnZ Y w F Z N C t L Ms)(hsp:Spb w x f r F.st)(hx:¬Y x)(hZ:Z+2 * (frA cs ct sz).length+3<16000000)(hT:Tst C L f r F.nb Z sz cs ct) :
  Calls Tryz.prog 10 #[.pointer (some ⟨x,0,none⟩),.pointer (some ⟨t,0,none⟩)] w fun e w'=>∃tv Y' L' cs',e=.returned (.tuple #[tv,.bool true])/\w'.ownsRow w.heap.size 3 1 tv (frA cs ct sz).length (((frA cs ct sz)).map (fun b:Nat=>Value.int .i64 (b:Int)))/\(∀q,tv.ownBlock=some q->¬Y' q)/\OpnZ Y' w' F (Z+2 * (frA cs ct sz).length+2) N C t L' Ms/\Tst C L' f r F.nb (Z+2 * (frA cs ct sz).length+2) sz cs' ct/\frA cs' ct sz=[]/\(∀b,cs' b=if b∈(frA cs ct sz) then 1 else cs b)/\(∀y,y<f\/f+pagesN r<=y->L' y=L y)/\Gr Y Y' w/\But Y w w':=by
 obtain⟨PO,hPO⟩:∃PO:Ending->World->Prop,PO=fun e w'=>∃tv Y' L' cs',e=.returned (.tuple #[tv,.bool true])/\w'.ownsRow w.heap.size 3 1 tv (frA cs ct sz).length (((frA cs ct sz)).map (fun b:Nat=>Value.int .i64 (b:Int)))/\(∀q,tv.ownBlock=some q->¬Y' q)/\OpnZ Y' w' F (Z+2 * (frA cs ct sz).length+2) N C t L' Ms/\Tst C L' f r F.nb (Z+2 * (frA cs ct sz).length+2) sz cs' ct/\frA cs' ct sz=[]/\(∀b,cs' b=if b∈(frA cs ct sz) then 1 else cs b)/\(∀y,y<f\/f+pagesN r<=y->L' y=L y)/\Gr Y Y' w/\But Y w w':=⟨_,rfl⟩
 rw[<- hPO]
 obtain⟨M,hM⟩:∃M,M=(frA cs ct sz).length:=⟨_,rfl⟩
 have hMr:M<=262144:=by
  have:=frA_len cs ct sz
  have:=hT.sz1
  have:=hT.hP.hr
  omega
 have hsorted:=frA_sorted cs ct sz
 obtain⟨DI,hDI⟩:∃DI:Nat->Value->World->Prop,DI=DrI Y w F Z N C t L Ms f r sz cs ct:=⟨_,rfl⟩
 have HF0:Hid (Calls Tryz.prog 39 #[.pointer (some ⟨x,0,none⟩),.pointer (some ⟨t,0,none⟩)] w fun e w1=>e=.returned (.tuple #[.int .i64 (M:Int),.int .i64 0])/\DI 0 (.slice none 0 0) w1):=by
  refine Calls.mono (h.free hsp hx (by omega) hT) ?_
  rintro e w1 ⟨Y',rfl,q1,q2,q3⟩
  rw[<- hM,hDI]
  exact⟨rfl,Y',L,cs,⟨⟨rfl,.inl ⟨rfl,rfl⟩⟩,fun _=>rfl⟩,(fun q e=>by cases e),q1,hT.mono (by omega),rfl,(fun b=>by simp),fun _ _=>rfl,q2,q3⟩
 have HR:Hid (∀i tv W,DI i tv W->i<M->∃b:Nat,(1<=(b:Int))/\Calls Tryz.prog 24 #[.pointer (some ⟨x,0,none⟩),.pointer (some ⟨t,0,none⟩)] W fun e w1=>e=.returned (.tuple #[.int .i64 (b:Int),.int .i64 0])/\Calls Tryz.prog 39 #[.pointer (some ⟨x,0,none⟩),.pointer (some ⟨t,0,none⟩)] w1 fun e w2=>e=.returned (.tuple #[.int .i64 ((M:Int)-(i:Int)-1),.int .i64 0])/\((i=0/\tv=.slice none 0 0)\/∃k g cap a:Nat,i=k+1/\tv=.slice (some ⟨g,0,none⟩) (k+1) cap/\w2.cell? ⟨g,k,none⟩=some (.int .i64 (a:Int))/\¬(b:Int)<=(a:Int))/\∃v' w3,(Builtin.append_ #[37,37] 37 #[tv,.slice (some ⟨w2.heap.size,0,none⟩) 1 1]).run Tryz.prog (w2.alloc (.cells #[.int .i64 (b:Int)] 3))=.ok v' w3/\DI (i+1) v' w3):=fun i tv W hd hi=>by
  rw[hDI]at hd
  obtain⟨b,hb⟩:∃b,(frA cs ct sz)[i]?=some b:=⟨_,List.getElem?_eq_getElem (by omega)⟩
  have hb1:=(frA_mem.1 (List.mem_of_getElem? hb)).1.1
  refine⟨b,by omega,Calls.mono (hd.round hsp hx (by omega) hb) ?_⟩
  rintro e w1 ⟨rfl,h2⟩
  refine⟨rfl,Calls.mono h2 ?_⟩
  rintro e w2 ⟨rfl,hs2,⟨hrow,hrz⟩,v',w3,hrun,hd3⟩
  refine⟨by rw[<- hM,show ((M-(i+1):Nat):Int)=(M:Int)-(i:Int)-1 from by omega],?_,v',w3,hrun,by rw[hDI];exact hd3⟩
  cases i with
  | zero=>
   exact .inl ⟨rfl,hrz rfl⟩
  | succ k=>
   obtain⟨g,cap,rfl⟩:=ownsRow_succ hrow
   obtain⟨a,ha⟩:∃a,(frA cs ct sz)[k]?=some a:=⟨_,List.getElem?_eq_getElem (by omega)⟩
   refine .inr ⟨k,g,cap,a,rfl,rfl,row_lastI hrow (by rw[List.getElem?_take_of_lt (by omega)];exact ha),?_⟩
   have h1:=List.getElem?_eq_some_iff.1 ha
   have h2':=List.getElem?_eq_some_iff.1 hb
   have h3:=List.pairwise_iff_getElem.1 hsorted k (k+1) h1.1 h2'.1 (by omega)
   rw[h1.2,h2'.2]at h3
   omega
 have HE:Hid (∀tv W,DI M tv W->Calls Tryz.prog 24 #[.pointer (some ⟨x,0,none⟩),.pointer (some ⟨t,0,none⟩)] W fun e w1=>e=.returned (.tuple #[.int .i64 0,.int .i64 64])/\PO (.returned (.tuple #[tv,.bool true])) w1):=fun tv W hd=>by
  rw[hDI,hM]at hd
  obtain⟨Y',L',cs',⟨h1,_⟩,h2,h3,h4,h5,h6,h7,h8,h9⟩:=hd
  have hxl:=hsp.lt
  have s9:=h9.size
  have sp1:=hsp.keep (h9.block x hxl hx)
  have hx1:¬Y' x:=fun q=>hx (h8 x hxl q)
  rw[List.drop_length]at h5
  rw[List.take_length]at h1 h6
  refine Calls.mono (h3.alloc sp1 hx1 (by omega) h4) ?_
  rintro e w1 ⟨Y1,L1,cs1,hc,k1,k2,k3,k4,k5⟩
  rw[h5]at hc
  rcases hc with ⟨rfl,_,rfl⟩ | ⟨b',_,hb',_⟩
  ·refine⟨rfl,?_⟩
   rw[hPO]
   exact⟨tv,Y1,L1,cs1,rfl,owns_keep h1 (fun g' e=>k5.block g' (World.ownsRow.lt h1 g' e).2 (h2 g' e)),fun q e e2=>h2 q e (k4 q (World.ownsRow.lt h1 q e).2 e2),k1,k2,h5,h6,fun y hy=>(k3 y hy).trans (h7 y hy),fun q hq e=>h8 q hq (k4 q (by omega) e),h9.comp k5 (fun q hq e=>h8 q hq e)⟩
  ·cases hb'
 clear h hsp hx hZ hT hDI hPO hM hsorted
 go_enter Tryz.func10,Tryz.ntmps10
 go_wp2_with fail
 refine Calls.mono HF0.out ?_
 rintro e w1 ⟨rfl,hd0⟩
 have HD0:=hid hd0
 have hMr2:¬262144<(M:Int):=by omega
 clear hd0 HF0
 go_wp2_with fail
 refine Calls.mono (num_any 0 w1) ?_
 rintro e w9 ⟨rfl,hw9⟩
 rw[hw9]
 clear hw9
 go_wp2_with fail
 go_loopw [8,9] (fun gv iv wr=>∃i:Nat,i<=M/\iv=.int .i64 (i:Int)/\DI i gv wr) (fun _ iv _=>M-(intOf iv).toNat)
 case atStart=>exact⟨0,Nat.zero_le _,rfl,HD0.out⟩
 case round=>
  clear HD0
  rename World=>wo
  obtain⟨i,hiM,rfl,hd⟩:=hrel
  by_cases hi:i<M
  ·have hi':(i:Int)<(M:Int):=by omega
   obtain⟨b,hb1,hc⟩:=HR.out i _ _ hd hi
   have HC:=hid hc
   have hb2:¬(b:Int)<1:=by omega
   clear hc HR HE hd
   go_wp2_with fail
   refine Calls.mono HC.out ?_
   rintro e w1 ⟨rfl,h2⟩
   have H2:=hid h2
   clear h2 HC
   go_wp2_with fail
   refine Calls.mono H2.out ?_
   rintro e w2 ⟨rfl,hcase,v',w3,hrun,hd3⟩
   have HD3:=hid hd3
   clear hd3 H2
   rcases hcase with ⟨rfl,rfl⟩ | ⟨k,g,cap,a,rfl,rfl,hcl,hlt⟩
   ·go_wp2_with fail
    refine Calls.mono (num_any 0 w2) ?_
    rintro e w9 ⟨rfl,hw9⟩
    rw[hw9]
    clear hw9
    go_wp2_with fail
    refine Calls.mono (num_any 0 w2) ?_
    rintro e w9 ⟨rfl,hw9⟩
    rw[hw9]
    clear hw9
    go_wp2_with (at_builtin;refine Lib.wpList_append_run _ rfl _ _ _ _ rfl _ _ rfl rfl _ _ hrun ?_)
    go_roundw
    case rel=>exact⟨_,by omega,by go_num,HD3.out⟩
    case measure=>simp[intOf];omega
   ·go_wp2_with fail
    refine Calls.mono (num_any 0 w2) ?_
    rintro e w9 ⟨rfl,hw9⟩
    rw[hw9]
    clear hw9
    go_wp2_with fail
    refine Calls.mono (num_any 0 w2) ?_
    rintro e w9 ⟨rfl,hw9⟩
    rw[hw9]
    clear hw9
    go_wp2_with (at_builtin;refine Lib.wpList_append_run _ rfl _ _ _ _ rfl _ _ rfl rfl _ _ hrun ?_)
    go_roundw
    case rel=>exact⟨_,by omega,by go_num,HD3.out⟩
    case measure=>simp[intOf];omega
  ·have hi':¬(i:Int)<(M:Int):=by omega
   have hie:i=M:=by omega
   subst hie
   have HX:=hid (HE.out _ _ hd)
   clear HR HE hd
   go_wp2_with fail
   refine Calls.mono HX.out ?_
   rintro e w1 ⟨rfl,hp⟩
   have HP:=hid hp
   clear hp HX
   go_wp2_with fail
   refine Calls.mono (num_any 64 w1) ?_
   rintro e w9 ⟨rfl,hw9⟩
   rw[hw9]
   clear hw9
   go_wp2_with fail
   exact HP.out
end Go.Proofs.YtlefjidbpjkhlaaGreat
