import Derived.Test.YtlefjidbpjkhlaaGreatK38
set_option maxRecDepth 100000
set_option maxHeartbeats 16000000
namespace Go.Proofs.YtlefjidbpjkhlaaGreat
variable {W w:World}
variable {K N b f n r sz t x:Nat}
variable {Y:Nat->Prop}
variable {F:Cf}
variable {C:Nat->List Int}
variable {L:Nat->Option (List Int)}
variable {Ms:List (Nat->Option (List Int))}
variable {lf:Int}
open Go.RowKit Go.Deep Go.Shelf
attribute [local go_sem] Oper.semAt_some
def frN (C:Nat->List Int) (L:Nat->Option (List Int)) (f r sz:Nat) (lf:Int) (k:Nat):Int:=if abB C L f r lf k then zrI C L f sz k else ((frl (spgA C L f (indexN r+k)) (cpg (bgn C f r lf) r (indexN r+k) (C (f+(indexN r+k)))) (bkN sz k)).length:Int)
def smI (C:Nat->List Int) (L:Nat->Option (List Int)) (f r sz:Nat) (lf:Int) (ks:List Nat):Int:=(ks.map (frN C L f r sz lf)).sum
theorem smI_snoc(C:Nat->List Int)(L:Nat->Option (List Int))(f r sz:Nat)(lf:Int)(ks:List Nat)(k:Nat):smI C L f r sz lf (ks++[k])=smI C L f r sz lf ks+frN C L f r sz lf k:=by
 unfold smI
 rw[List.map_append,List.sum_append]
 simp
theorem set_heap{ty:Nat}{cs:Array Value}{fr:Nat×Nat}(v:Value)(h:W.heap[b]?=some (.cells cs ty fr)):(W.setCell ⟨b,0,none⟩ v).heap[b]?=some (.cells (cs.setIfInBounds 0 v) ty fr):=by
 simp only[World.setCell,Array.getElem?_modify]
 simp[h]
theorem bkN_le(sz k:Nat):bkN sz k<=480:=by unfold bkN;omega
theorem Opn.vcountFree(h:Opn Y w F K N C t L Ms n)(hsp:Spb w x f r F.st)(hx:¬Y x)(hK:K+12000<4611686018427387904)(hsz:1<=sz/\sz<=r)(hr:r<=262144)(hf1:64<=f)(hf2:f+pagesN r<=F.nb)(hpg:∀j,j<pagesN r->isPg r j (spgA C L f j)=true) :
  Calls Tryz.prog 73 #[.agg #[.pointer (some ⟨x,0,none⟩),.int .i64 (sz:Int),.int .i64 lf,.pointer (some ⟨t,0,none⟩)]] w fun e w'=>∃K' Y',e=.returned (.tuple #[.int .i64 (smI C L f r sz lf (gls C L f sz ((sz-1) / 480+1))),.int .i64 0])/\K'<=K+1700/\Opn Y' w' F K' N C t L Ms n/\Gr Y Y' w/\But Y w w':=by
 refine poz fun PO hPO=>?_
 have HPO:=hid hPO
 have hlt:=h.lt
 obtain⟨ox,hox,hsx⟩:=hsp.obj
 obtain⟨w1,hw1⟩:∃w1,w1=(((w.alloc (.cells #[.pointer (some ⟨x,0,none⟩),.int .i64 (sz:Int),.int .i64 lf,.pointer (some ⟨t,0,none⟩)] 103)).alloc (.cells #[.int .i64 0] 3)).alloc (.cells #[.int .i64 0] 34)).alloc (.cells #[.int .i64 0] 3):=⟨_,rfl⟩
 have s1:w1.heap.size=w.heap.size+4:=by rw[hw1];simp
 have b1:Below w.heap.size w w1:=by rw[hw1];exact ((((Below.refl _ _).alloc (Nat.le_refl _) _).alloc (by simp) _).alloc (by simp;omega) _).alloc (by simp;omega) _
 have k0:(w1.heap[w.heap.size]?=some (.cells #[.pointer (some ⟨x,0,none⟩),.int .i64 (sz:Int),.int .i64 lf,.pointer (some ⟨t,0,none⟩)] 103 (0,0))/\w1.heap[w.heap.size+1]?=some (.cells #[.int .i64 0] 3 (0,0)))/\w1.heap[w.heap.size+2]?=some (.cells #[.int .i64 0] 34 (0,0))/\w1.heap[w.heap.size+3]?=some (.cells #[.int .i64 0] 3 (0,0)):=by rw[hw1];exact allocs4 _ _ _ _ _
 have HW1:=hid hw1
 have HB:=hid hPO
 have HG0:=hid (groups_any #[.pointer (some ⟨x,0,none⟩),.int .i64 (sz:Int),.int .i64 lf,.pointer (some ⟨t,0,none⟩)] w1)
 clear hPO
 refine (callsIn_wide (n:=5)).1 ?_
 refine callsIn_of_wp_marks Tryz.func73 rfl trivial ?_ rfl
 refine wpIn_wide.2 ?_
 simp only[Tryz.ntmps73,List.size_toArray,List.length_cons,List.length_nil,Nat.reduceAdd,Nat.reduceSub,Array.replicate_succ,Array.replicate_zero,List.push_toArray,List.append_toArray,List.nil_append,List.cons_append]
 go_wp2_with fail
 rw[<- HW1.out]
 refine Calls.mono HG0.out ?_
 rintro e w2 ⟨rfl,hw2⟩
 rw[s1]
 clear HG0 hw1
 go_wp2_with fail
 simp only[Nat.add_assoc,Nat.reduceAdd]
 obtain⟨w3,hw3⟩:∃w3,w3=w1.alloc (.cells #[.pointer (some ⟨x,0,none⟩),.int .i64 (sz:Int),.int .i64 lf,.pointer (some ⟨t,0,none⟩)] 103):=⟨_,rfl⟩
 rw[<- hw3]
 have s3:w3.heap.size=w.heap.size+5:=by rw[hw3];simp[s1]
 have b3:Below w1.heap.size w1 w3:=by rw[hw3];exact (Below.refl _ _).alloc (Nat.le_refl _) _
 have k4:w3.heap[w.heap.size+4]?=some (.cells #[.pointer (some ⟨x,0,none⟩),.int .i64 (sz:Int),.int .i64 lf,.pointer (some ⟨t,0,none⟩)] 103 (0,0)):=by rw[hw3,<- s1];exact World.alloc_heap_new _ _
 obtain⟨QL,hQL⟩:∃QL:List Nat->List (Nat×Obj),QL=fun pre=>[(x,ox),(w.heap.size,.cells #[.pointer (some ⟨x,0,none⟩),.int .i64 (sz:Int),.int .i64 lf,.pointer (some ⟨t,0,none⟩)] 103 (0,0)),(w.heap.size+1,.cells #[.int .i64 0] 3 (0,0)),(w.heap.size+2,.cells #[.int .i64 0] 34 (0,0)),(w.heap.size+3,.cells #[.int .i64 (smI C L f r sz lf pre)] 3 (0,0)),(w.heap.size+4,.cells #[.pointer (some ⟨x,0,none⟩),.int .i64 (sz:Int),.int .i64 lf,.pointer (some ⟨t,0,none⟩)] 103 (0,0))]:=⟨_,rfl⟩
 have hB:w.heap.size<=w3.heap.size:=by omega
 obtain⟨I,hI⟩:∃I:Nat×List (Nat×Obj)->List Nat->World->Prop,I=fun c pre W=>GuI Y w w3.heap.size F K N C t L Ms n c pre.length (QL pre) W/\(0<=smI C L f r sz lf pre/\smI C L f r sz lf pre<=480 * (pre.length:Int)):=⟨_,rfl⟩
 have hG:GrK F K N C t L Ms n x f r sz (w.heap.size+4) lf w3.heap.size I:=by
  rw[hI]
  exact GuI.grk hlt hB QL (fun pre=>0<=smI C L f r sz lf pre/\smI C L f r sz lf pre<=480 * (pre.length:Int)) (fun pre=>by rw[hQL];simp) (fun pre=>by rw[hQL];simp) hsx
 have hIk:∀c pre W o,I c pre W->I c pre (W.putObj (w3.heap.size+1) o):=fun c pre W o q=>by
  rw[hI]at q ⊢
  exact⟨q.1.keep hlt hB (but_put W _ o) (fun q e=>.inr e),q.2⟩
 have I0:∀o1 o2,I (0,[]) [] ((w3.alloc o1).alloc o2):=fun o1 o2=>by
  have bb:Below w3.heap.size w3 ((w3.alloc o1).alloc o2):=((Below.refl _ _).alloc (Nat.le_refl _) _).alloc (by simp) _
  have b13:Below w1.heap.size w1 ((w3.alloc o1).alloc o2):=b3.trans (bb.mono (by omega))
  have bw:Below w.heap.size w ((w3.alloc o1).alloc o2):=b1.trans (b13.mono (by omega))
  rw[hI]
  refine⟨⟨Y,K,h.below bw,by omega,fun q _ e=>e,But.of_below bw,by simp,by simp,?_⟩,by simp[smI]⟩
  rw[hQL]
  intro p hp
  simp only[List.mem_cons,List.not_mem_nil,or_false]at hp
  have hxl:=(Array.getElem?_eq_some_iff.1 hox).1
  rcases hp with rfl | rfl | rfl | rfl | rfl | rfl
  ·exact⟨(bw.block _ hxl).trans hox,hx,by simp only;omega⟩
  ·exact⟨(b13.block _ (by omega)).trans k0.1.1,fun e=>by have:=hlt _ e;omega,by simp only;omega⟩
  ·exact⟨(b13.block _ (by omega)).trans k0.1.2,fun e=>by have:=hlt _ e;omega,by simp only;omega⟩
  ·exact⟨(b13.block _ (by omega)).trans k0.2.1,fun e=>by have:=hlt _ e;omega,by simp only;omega⟩
  ·exact⟨(b13.block _ (by omega)).trans k0.2.2,fun e=>by have:=hlt _ e;omega,by simp only;omega⟩
  ·exact⟨(bb.block _ (by omega)).trans k4,fun e=>by have:=hlt _ e;omega,by simp only;omega⟩
 have hpp:indexN r<=pagesN r:=by unfold pagesN;omega
 have HIT:=hid (groups_it F K N C t L Ms n x f r sz (w.heap.size+4) lf w3.heap.size I (fun _ _ _ _=>False) w3 3 (by omega) hG (by omega) hsz hr hf1 hf2 (fun j hj=>hpg j (by omega)))
 have hkn:∀k,k<((sz-1) / 480+1)->indexN r+k<pagesN r:=fun k hk=>by unfold pagesN countsN partsN;omega
 have HBOD:Hid (∀l c0 pre k W,k<((sz-1) / 480+1)->0<zrI C L f sz k->zrI C L f sz k<=480->I c0 pre W->pre.length<1000->((∀nn:Nat,CallsIn (Fence.wide.inRound l) nn Tryz.prog 129 #[.agg #[.pointer (some ⟨x,0,none⟩),.int .i64 (sz:Int),.int .i64 lf,.pointer (some ⟨t,0,none⟩),.pointer (some ⟨F.st,0,none⟩),.bool (bgn C f r lf),.int .i64 (k:Int),.int .i64 (bkN sz k:Int),.int .i64 (zrI C L f sz k),.bool (abB C L f r lf k)]] W fun e W'=>e=.returned (.tuple #[.int .i64 (frN C L f r sz lf k),.int .i64 0])/\(W'.cell? ⟨w.heap.size+3,0,none⟩=some (.int .i64 (smI C L f r sz lf pre))/\W'.frozen? ⟨w.heap.size+3,0,none⟩=false)/\Dl2 w3.heap.size W (W'.setCell ⟨w.heap.size+3,0,none⟩ (.int .i64 (smI C L f r sz lf pre+frN C L f r sz lf k)))/\I c0 (pre++[k]) (W'.setCell ⟨w.heap.size+3,0,none⟩ (.int .i64 (smI C L f r sz lf pre+frN C L f r sz lf k))))/\(0<=smI C L f r sz lf pre/\smI C L f r sz lf pre<=480000)/\0<=frN C L f r sz lf k/\frN C L f r sz lf k<=480)):=fun l c0 pre k W hk hz1 hz2 hi hlen=>by
  rw[hI]at hi ⊢
  obtain⟨hu,hs0,hs1⟩:=hi
  have hfb:0<=frN C L f r sz lf k/\frN C L f r sz lf k<=480:=by
   have:=bkN_le sz k
   have:=frl_len (spgA C L f (indexN r+k)) (cpg (bgn C f r lf) r (indexN r+k) (C (f+(indexN r+k)))) (bkN sz k)
   unfold frN
   split <;> omega
  refine⟨fun nn=>?_,⟨hs0,by omega⟩,hfb⟩
  obtain⟨Y',K',o1,o2,o3,o4,o5⟩:=hu.call hlt hB
  have hmx:(x,ox)∈QL pre:=by rw[hQL];simp
  have hmc:(w.heap.size+3,.cells #[.int .i64 (smI C L f r sz lf pre)] 3 (0,0))∈QL pre:=by rw[hQL];simp
  have hkp:=hkn k hk
  have GP:GpC Y' W F K' N C t L Ms n x f r k:=⟨o1,hsx W (o3 _ hmx).1,(o3 _ hmx).2.1,hr,by omega,by omega,by omega,by omega,hpg _ hkp⟩
  refine CallsIn.inRound l (callsIn_wide.2 (Calls.mono (GP.countFree (nk:=bkN sz k) (sz:=(sz:Int)) (lf:=lf) (zk:=zrI C L f sz k) (b:=(bgn C f r lf)) (ab:=abB C L f r lf k) (bkN_le sz k)) ?_))
  rintro e W' ⟨K'',Y'',rfl,k1,k2,k3,k4⟩
  obtain⟨g1,g2⟩:=o5 K'' Y'' W' k1 k2 k3 k4
  obtain⟨Y3,K3,p1,p2,p3,p4,p5⟩:=g1.call hlt hB
  have hc:=(p3 _ hmc).1
  simp only at hc
  have hcl:=(Array.getElem?_eq_some_iff.1 hc).1
  have bs:=but_set W' (w.heap.size+3) 0 (.int .i64 (smI C L f r sz lf pre+frN C L f r sz lf k))
  have hxl:=(Array.getElem?_eq_some_iff.1 hox).1
  have hsW:w3.heap.size+2<=W'.heap.size:=by
   obtain⟨_,_,_,_,_,_,q5,_⟩:=g1
   exact q5
  refine⟨rfl,⟨by simp[World.cell?,hc],by simp[World.frozen?,hc]⟩,g2.trans (Dl2.of_but bs (by omega) (by omega) (by omega)),?_,?_⟩
  ·rw[List.length_append,List.length_singleton]
   refine g1.set hlt hB bs ⟨by omega,by omega⟩ ⟨_,hmc⟩ (o:=.cells #[.int .i64 (smI C L f r sz lf (pre++[k]))] 3 (0,0)) ?_ ?_
   ·rw[smI_snoc]
    simp only[World.setCell,Array.getElem?_modify]
    simp[hc]
   ·rw[hQL]
    intro p hp
    simp only[List.mem_cons,List.not_mem_nil,or_false]at hp ⊢
    rcases hp with rfl | rfl | rfl | rfl | rfl | rfl
    ·exact .inr ⟨by simp,by simp only;omega⟩
    ·exact .inr ⟨by simp,by simp only;omega⟩
    ·exact .inr ⟨by simp,by simp only;omega⟩
    ·exact .inr ⟨by simp,by simp only;omega⟩
    ·exact .inl rfl
    ·exact .inr ⟨by simp,by simp only;omega⟩
  ·rw[smI_snoc,List.length_append,List.length_singleton]
   omega
 have hIb:∀c pre W W',Below W.heap.size W W'->I c pre W->I c pre W':=fun c pre W W' bb q=>by
  rw[hI]at q ⊢
  exact⟨q.1.keep hlt hB (But.of_below bb (X:=fun _=>False)) (fun q e=>e.elim),q.2⟩
 have HEnd:Hid (∀D c0 xs W,w3.heap.size=D->xs=gls C L f sz ((sz-1) / 480+1)->I c0 xs W->W.heap[D]?=some (.deferred (some []))->(W.cell? ⟨w.heap.size+3,0,none⟩=some (.int .i64 (smI C L f r sz lf xs))/\(W.cell? ⟨w.heap.size+1,0,none⟩=some (.int .i64 0)/\W.frozen? ⟨w.heap.size+1,0,none⟩=false)/\W.cell? ⟨w.heap.size+2,0,none⟩=some (.int .i64 0)/\W.frozen? ⟨w.heap.size+2,0,none⟩=false) /\
   ((W.setCell ⟨w.heap.size+1,0,none⟩ (.int .i64 (smI C L f r sz lf xs))).setCell ⟨w.heap.size+2,0,none⟩ (.int .i64 0)).heap[D]?=some (.deferred (some [])) /\
   ((((W.setCell ⟨w.heap.size+1,0,none⟩ (.int .i64 (smI C L f r sz lf xs))).setCell ⟨w.heap.size+2,0,none⟩ (.int .i64 0)).putObj D (.deferred none)).cell? ⟨w.heap.size+1,0,none⟩=some (.int .i64 (smI C L f r sz lf xs))/\(((W.setCell ⟨w.heap.size+1,0,none⟩ (.int .i64 (smI C L f r sz lf xs))).setCell ⟨w.heap.size+2,0,none⟩ (.int .i64 0)).putObj D (.deferred none)).cell? ⟨w.heap.size+2,0,none⟩=some (.int .i64 0)) /\
   PO (.returned (.tuple #[.int .i64 (smI C L f r sz lf xs),.int .i64 0])) (((W.setCell ⟨w.heap.size+1,0,none⟩ (.int .i64 (smI C L f r sz lf xs))).setCell ⟨w.heap.size+2,0,none⟩ (.int .i64 0)).putObj D (.deferred none))):=fun D c0 xs W hD hS hi hDk=>by
  rw[hI]at hi
  obtain⟨hu,hs0,hs1⟩:=hi
  have hxl:=(Array.getElem?_eq_some_iff.1 hox).1
  have bs1:=but_set W (w.heap.size+1) 0 (.int .i64 (smI C L f r sz lf xs))
  have bs2:=but_set (W.setCell ⟨w.heap.size+1,0,none⟩ (.int .i64 (smI C L f r sz lf xs))) (w.heap.size+2) 0 (.int .i64 0)
  have bp:=but_put ((W.setCell ⟨w.heap.size+1,0,none⟩ (.int .i64 (smI C L f r sz lf xs))).setCell ⟨w.heap.size+2,0,none⟩ (.int .i64 0)) D (.deferred none)
  obtain⟨Y',K',o1,o2,o3,o4,o5⟩:=hu.call hlt hB
  have m1:(w.heap.size+1,.cells #[.int .i64 0] 3 (0,0))∈QL xs:=by rw[hQL];simp
  have m2:(w.heap.size+2,.cells #[.int .i64 0] 34 (0,0))∈QL xs:=by rw[hQL];simp
  have m3:(w.heap.size+3,.cells #[.int .i64 (smI C L f r sz lf xs)] 3 (0,0))∈QL xs:=by rw[hQL];simp
  have c1:=(o3 _ m1).1
  have c2:=(o3 _ m2).1
  have c3:=(o3 _ m3).1
  simp only at c1 c2 c3
  have hDl:=(Array.getElem?_eq_some_iff.1 hDk).1
  have u1:=hu.set hlt hB bs1 ⟨by omega,by omega⟩ ⟨_,m1⟩ (o:=.cells #[.int .i64 (smI C L f r sz lf xs)] 3 (0,0)) (Qs':=[(w.heap.size+1,.cells #[.int .i64 (smI C L f r sz lf xs)] 3 (0,0)),(w.heap.size+2,.cells #[.int .i64 0] 34 (0,0))]) (set_heap _ c1) (fun p hp=>by
   simp only[List.mem_cons,List.not_mem_nil,or_false]at hp
   rcases hp with rfl | rfl
   ·exact .inl rfl
   ·exact .inr ⟨m2,by simp only;omega⟩)
  have c2':=(bs1.block (w.heap.size+2) (Array.getElem?_eq_some_iff.1 c2).1 (by omega)).trans c2
  have u2:=u1.set hlt hB bs2 ⟨by omega,by omega⟩ ⟨.cells #[.int .i64 0] 34 (0,0),by simp⟩ (o:=.cells #[.int .i64 0] 34 (0,0)) (Qs':=[(w.heap.size+1,.cells #[.int .i64 (smI C L f r sz lf xs)] 3 (0,0)),(w.heap.size+2,.cells #[.int .i64 0] 34 (0,0))]) (set_heap _ c2') (fun p hp=>by
   simp only[List.mem_cons,List.not_mem_nil,or_false]at hp ⊢
   rcases hp with rfl | rfl
   ·exact .inr ⟨.inl rfl,by simp only;omega⟩
   ·exact .inl rfl)
  have u3:=u2.keep hlt hB bp (fun q e=>.inl (by omega))
  obtain⟨Y4,K4,q1,q2,q3,q4,q5,q6,q7⟩:=u3
  have d1:=(q7 (w.heap.size+1,.cells #[.int .i64 (smI C L f r sz lf xs)] 3 (0,0)) (by simp)).1
  have d2:=(q7 (w.heap.size+2,.cells #[.int .i64 0] 34 (0,0)) (by simp)).1
  simp only at d1 d2
  refine⟨⟨by simp[World.cell?,c3],⟨by simp[World.cell?,c1],by simp[World.frozen?,c1]⟩,by simp[World.cell?,c2],by simp[World.frozen?,c2]⟩,?_,⟨by simp only[World.cell?,d1];rfl,by simp only[World.cell?,d2];rfl⟩,?_⟩
  ·exact (bs2.block D (Nat.lt_of_lt_of_le hDl bs1.size) (by omega)).trans ((bs1.block D hDl (by omega)).trans hDk)
  ·have hgl:=gls_len C L f sz ((sz-1) / 480+1)
   rw[HPO.out]
   refine⟨K4,Y4,by rw[hS],?_,q1,fun q hq e=>q3 q (by omega) e,q4⟩
   rw[hS]at q2
   omega
 have HIb:=hid hIb
 have HIk:=hid hIk
 have H0:=hid I0
 have HS3:=hid s3
 have HS1:=hid s1
 clear hI hIb hIk I0 hG hQL hw3 hw2 b3 k4 k0 b1 hkn h hsp hpg HW1
 refine (wpIn_wide (n:=4)).1 ?_
 refine rfLawG (F:=Fence.wide) (n:=4) rfl (by omega) (gf:=144) (lb:=#[.pointer (some ⟨w.heap.size+4,0,none⟩)]) rfl trivial (enters_of Tryz.func144 (by kernel_rfl) rfl) (fun _=>rfl) I (fun _ _ _ _=>False) ?hI (fun _ _ _ _ _ _ q=>q) (0,[]) ?h0 (fun c0 pre k a' W=>I c0 pre W/\∃gb,w3.heap.size+2<=gb/\W.heap[gb]?=some (.cells #[.pointer (some ⟨x,0,none⟩),.int .i64 (sz:Int),.int .i64 lf,.pointer (some ⟨t,0,none⟩),.pointer (some ⟨F.st,0,none⟩),.bool (bgn C f r lf),.int .i64 (k:Int),.int .i64 (bkN sz k:Int),.int .i64 (zrI C L f sz k),.bool (abB C L f r lf k)] 166 (0,0))/\a'={ tmps:=#[Value.agg #[Value.pointer (some { block:=x,off:=0 }),Value.int IntKind.i64 ↑sz,Value.int IntKind.i64 lf,Value.pointer (some { block:=t,off:=0 })],Value.pointer (some { block:=w.heap.size,off:=0 }),Value.pointer (some { block:=w.heap.size+1,off:=0 }),Value.pointer (some { block:=w.heap.size+2,off:=0 }),Value.pointer (some { block:=w.heap.size+3,off:=0 }),Value.pointer (some ⟨gb,0,none⟩),Value.int IntKind.i64 0,undef,undef,Value.agg #[Value.pointer (some { block:=x,off:=0 }),Value.int IntKind.i64 ↑sz,Value.int IntKind.i64 lf,Value.pointer (some { block:=t,off:=0 })],Value.func (Fn.func 144) #[] #[Value.pointer (some { block:=w.heap.size+4,off:=0 })],Value.agg #[.pointer (some ⟨x,0,none⟩),.int .i64 (sz:Int),.int .i64 lf,.pointer (some ⟨t,0,none⟩),.pointer (some ⟨F.st,0,none⟩),.bool (bgn C f r lf),.int .i64 (k:Int),.int .i64 (bkN sz k:Int),.int .i64 (zrI C L f sz k),.bool (abB C L f r lf k)],Value.int IntKind.i64 0,undef,undef,undef,undef,undef,undef,undef,undef,undef,undef,undef,undef,undef,undef,undef],defers:=[] }) ?hAx HIT.out ?assign ?body ?done ?stop
 case hI=>exact fun c0 pre W o _ q=>HIk.out c0 pre W o q
 case h0=>exact H0.out
 case hAx=>exact fun c0 pre k a' W o _ q=>⟨HIk.out c0 pre W o q.1,by
   obtain⟨gb,g1,g2,g3⟩:=q.2
   exact⟨gb,g1,(World.putObj_heap_other (by omega)).trans g2,g3⟩⟩
 case assign=>
  intro l c0 pre k W KK hlt' hE hi hlen hK
  clear HIT HEnd HBOD
  gi_wp2
  have bb:Below W.heap.size W (W.alloc (.cells #[.pointer (some ⟨x,0,none⟩),.int .i64 (sz:Int),.int .i64 lf,.pointer (some ⟨t,0,none⟩),.pointer (some ⟨F.st,0,none⟩),.bool (bgn C f r lf),.int .i64 (k:Int),.int .i64 (bkN sz k:Int),.int .i64 (zrI C L f sz k),.bool (abB C L f r lf k)] 166)):=(Below.refl _ _).alloc (Nat.le_refl _) _
  exact hK _ _ (Dl2.of_below bb (by omega)) ⟨HIb.out _ _ _ _ bb hi,W.heap.size,by omega,World.alloc_heap_new _ _,by simp⟩
 case body=>
  rintro l c0 pre k a' W hlt' ⟨hk,hz1,hz2⟩ ⟨hi,gb,hg1,hg2,rfl⟩ hlen
  obtain⟨HC,⟨ha1,ha2⟩,hb1,hb2⟩:=HBOD.out l c0 pre k W hk hz1 hz2 hi hlen
  have HC2:=hid HC
  have cc:∀i,W.cell? ⟨gb,i,none⟩=#[.pointer (some ⟨x,0,none⟩),.int .i64 (sz:Int),.int .i64 lf,.pointer (some ⟨t,0,none⟩),.pointer (some ⟨F.st,0,none⟩),.bool (bgn C f r lf),.int .i64 (k:Int),.int .i64 (bkN sz k:Int),.int .i64 (zrI C L f sz k),.bool (abB C L f r lf k)][i]?:=fun i=>by simp[World.cell?,hg2]
  clear HC HIT HEnd HBOD HIk HIb H0 hi hg2
  generalize smI C L f r sz lf pre=sp at *
  generalize frN C L f r sz lf k=fv at *
  gi_wp2_with (refine⟨trivial,?_⟩;gi_at_call 129;with_reducible refine (HC2.out _).mono ?_;rintro e W' ⟨rfl,⟨c6,f6⟩,q1,q2⟩;have Q1:=hid q1;have Q2:=hid q2;clear q1 q2)
  exact⟨Q1.out,Q2.out⟩
 case done=>
  rintro D c0 xs W hD ⟨hS,hc⟩ hi hDk
  obtain⟨⟨c3,⟨c1,f1⟩,c2,f2⟩,e1,⟨e2,e3⟩,e4⟩:=HEnd.out D c0 xs W hD hS hi hDk
  have E1:=hid e1
  have E2:=hid e2
  have E3:=hid e3
  have E4:=hid e4
  clear hi hDk hS hD HIT HEnd HBOD HIk HIb H0 e1 e2 e3 e4 hc
  go_wp2_with fail
  refine⟨by simp,.inl ⟨_,_,rfl,run_takeDeferred E1.out,?_⟩⟩
  exact⟨_,results_cells2 rfl _ _ rfl rfl (loadv_one Tryz.underlying3 rfl E2.out) (loadv_one Tryz.underlying34 rfl E3.out),E4.out⟩
 case stop=>
  rintro D c0 c pre W _ _ q _
  exact q.elim
end Go.Proofs.YtlefjidbpjkhlaaGreat
