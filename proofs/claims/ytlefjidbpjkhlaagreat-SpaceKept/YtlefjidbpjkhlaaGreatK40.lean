import Derived.Test.YtlefjidbpjkhlaaGreatK39
set_option maxRecDepth 100000
set_option maxHeartbeats 16000000
namespace Go.Proofs.YtlefjidbpjkhlaaGreat
variable {K N f k m n r sz t x:Nat}
variable {P:Program}
variable {w w':World}
variable {ops:Array Oper}
variable {Q:Exit->Act->World->Prop}
variable {tv v v1 v2:Value}
variable {xs:List Value}
variable {Y:Nat->Prop}
variable {F:Cf}
variable {C:Nat->List Int}
variable {L:Nat->Option (List Int)}
variable {Ms:List (Nat->Option (List Int))}
variable {lf:Int}
open Go.RowKit Go.Deep Go.Shelf
attribute [local go_sem] Oper.semAt_some
theorem wpListIn_append_run{F:Fence}{rest:List Oper}{o:Oper}{a:Act}(hg:o.guard=none)(s x:Operand)(t:TypeId)(hop:o.op=Op.call { callee:=Callee.builtin Builtin.append,args:=#[s,x],argTypes:=#[t,t] })(hs:a.eval s=v)(hx:a.eval x=v1)(hrun:(Builtin.append_ #[t,t] o.type #[v,v1]).run P w=.ok v2 w')(hK:wpListIn F n P ops Q rest (a.put o.dst v2) w'):wpListIn F n P ops Q (o :: rest) a w:=by
 refine wpListIn_plain hg fun K hK'=>?_
 unfold Oper.wpIn
 refine⟨?_,?_⟩
 ·simp[Oper.about,hop,resolve,Target.leads,Sem.run_pure]
 ·rw[Oper.semAt_plain F _ _ (by rw[hop];intro c hc';cases hc')]
  simp[execOp,hop,resolve,invoke,builtin,hs,hx,hrun,Result.andThen]
  exact hK' _ _ hK
theorem app_nil0{base ty:Nat}(h:w.ownsRow base 3 1 tv 0 xs):∃W2,(Builtin.append_ #[37,37] ty #[.slice none 0 0,tv]).run Tryz.prog w=.ok (.slice none 0 0) W2/\w.grownBy W2 none:=by
 obtain⟨i0,hi3,hz0,hz1,hz2⟩:=info_parts info3
 have hn:w.ownsRow w.heap.size 3 1 (.slice none 0 0) 0 []:=⟨rfl,.inl ⟨rfl,rfl⟩⟩
 rcases h.2 with ⟨rfl,_⟩ | ⟨g,cap,cur,rfl,_⟩
 ·exact⟨w,run_append_owned_none w _ 37 ty 3 i0 1 Tryz.underlying37 hi3 _ _ _ hn,⟨rfl,rfl,rfl,Nat.le_refl _,fun _ _ _=>rfl⟩⟩
 ·obtain⟨v',w',r1,r2,r3,r4⟩:=run_append_own (P:=Tryz.prog) w w.heap.size 37 ty 3 i0 (.int .i64 0) 1 8 Tryz.underlying37 hi3 hz0 hz1 hz2 rfl (by decide) _ _ _ hn ⟨g,0,none⟩ 0 cap [] rfl (by simp) (by simp) (by unfold maxLen;omega) (by omega) (Nat.le_refl _)
  rw[r4.2 ⟨rfl,rfl⟩]at r1
  exact⟨w',r1,r3⟩
theorem app_nil1{base ty:Nat}{b:Int}(h:w.ownsRow base 3 1 tv 1 [.int .i64 b]):∃g cap cur W2,(Builtin.append_ #[37,37] ty #[.slice none 0 0,tv]).run Tryz.prog w=.ok (.slice (some ⟨g,0,none⟩) 1 cap) W2/\W2.heap[g]?=some (.cells cur 3 (0,0))/\w.heap.size<=g/\cur[0]?=some (.int .i64 b)/\w.grownBy W2 none:=by
 obtain⟨i0,hi3,hz0,hz1,hz2⟩:=info_parts info3
 have hn:w.ownsRow w.heap.size 3 1 (.slice none 0 0) 0 []:=⟨rfl,.inl ⟨rfl,rfl⟩⟩
 rcases h.2 with ⟨_,e⟩ | ⟨g,cap,cur,rfl,hb,hg,h1,h2,h3,h4⟩
 ·omega
 ·have hcell:∀j u,[Value.int .i64 b][j]?=some u->w.cell? ((⟨g,0,none⟩:Addr).add j)=some u:=by
   intro j u hj
   cases j with
   | zero=>
    simp only[List.getElem?_cons_zero,Option.some.injEq]at hj
    subst hj
    have h5:cur.toList[0]?=some (.int .i64 b):=by
     have:(cur.toList.take (1 * 1))[0]?=some (.int .i64 b):=by rw[h4];rfl
     rwa [List.getElem?_take_of_lt (by omega)]at this
    have h6:cur[0]?=some (.int .i64 b):=by simpa using h5
    simp[World.cell?,Addr.add,hg,h6]
   | succ j=>simp at hj
  obtain⟨v',w',r1,r2,r3,r4⟩:=run_append_own (P:=Tryz.prog) w w.heap.size 37 ty 3 i0 (.int .i64 0) 1 8 Tryz.underlying37 hi3 hz0 hz1 hz2 rfl (by decide) _ _ _ hn ⟨g,0,none⟩ 1 cap [.int .i64 b] rfl hcell (by simp[Value.oneCell']) (by unfold maxLen;omega) (by omega) (Nat.le_refl _)
  rcases r2.2 with ⟨_,e⟩ | ⟨g',cap',cur',rfl,q1,q2,q3,q4,q5,q6⟩
  ·omega
  ·refine⟨g',cap',cur',w',r1,q2,q1,?_,r3⟩
   have:(cur'.toList.take ((0+1) * 1))[0]?=some (.int .i64 b):=by rw[q6];rfl
   rw[List.getElem?_take_of_lt (by omega)]at this
   simpa using this
def frB (C:Nat->List Int) (L:Nat->Option (List Int)) (f r sz:Nat) (lf:Int) (k:Nat):List Nat:=(frl (spgA C L f (indexN r+k)) (cpg (bgn C f r lf) r (indexN r+k) (C (f+(indexN r+k)))) (bkN sz k)).map (fun i=>480 * k+i+1)
theorem gls_prefix(C:Nat->List Int)(L:Nat->Option (List Int))(f sz:Nat)(h:m<=k):∃l,gls C L f sz k=gls C L f sz m++l:=by
 obtain⟨d,rfl⟩:∃d,k=m+d:=⟨k-m,by omega⟩
 unfold gls
 rw[List.range_add,List.filter_append]
 exact⟨_,rfl⟩
theorem allocs5(w:World)(o0 o1 o2 o3 o4:Obj):((((((w.alloc o0).alloc o1).alloc o2).alloc o3).alloc o4).heap[w.heap.size+1]?=some o1/\(((((w.alloc o0).alloc o1).alloc o2).alloc o3).alloc o4).heap[w.heap.size+2]?=some o2)/\(((((w.alloc o0).alloc o1).alloc o2).alloc o3).alloc o4).heap[w.heap.size+3]?=some o3/\(((((w.alloc o0).alloc o1).alloc o2).alloc o3).alloc o4).heap[w.heap.size+4]?=some o4:=by
 obtain⟨⟨a0,a1⟩,a2,a3⟩:=allocs4 w o0 o1 o2 o3
 have a4:=World.alloc_heap_new ((((w.alloc o0).alloc o1).alloc o2).alloc o3) o4
 simp only[World.size_alloc]at a4
 refine⟨⟨?_,?_⟩,?_,a4⟩
 ·rw[Below.heap_alloc _ _ _ (by simp only[World.size_alloc];omega)]
  exact a1
 ·rw[Below.heap_alloc _ _ _ (by simp only[World.size_alloc];omega)]
  exact a2
 ·rw[Below.heap_alloc _ _ _ (by simp only[World.size_alloc];omega)]
  exact a3
theorem Opn.vlowestFree(h:Opn Y w F K N C t L Ms n)(hsp:Spb w x f r F.st)(hx:¬Y x)(hK:K+12000<4611686018427387904)(hsz:1<=sz/\sz<=r)(hr:r<=262144)(hf1:64<=f)(hf2:f+pagesN r<=F.nb)(hpg:∀j,j<pagesN r->isPg r j (spgA C L f j)=true) :
  Calls Tryz.prog 53 #[.agg #[.pointer (some ⟨x,0,none⟩),.int .i64 (sz:Int),.int .i64 lf,.pointer (some ⟨t,0,none⟩)],.int .i64 1] w fun e w'=>∃K' Y',K'<=K+1700/\Opn Y' w' F K' N C t L Ms n/\Gr Y Y' w/\But Y w w'/\((e=.returned (.tuple #[.slice none 0 0,.int .i64 64])/\((gls C L f sz ((sz-1) / 480+1)).flatMap (frB C L f r sz lf))=[])\/∃g cap b,e=.returned (.tuple #[.slice (some ⟨g,0,none⟩) 1 cap,.int .i64 0])/\((gls C L f sz ((sz-1) / 480+1)).flatMap (frB C L f r sz lf)).head?=some b/\w'.cell? ⟨g,0,none⟩=some (.int .i64 (b:Int))/\¬Y' g/\w.heap.size<=g):=by
 refine poz fun PO hPO=>?_
 have HPO:=hid hPO
 have hlt:=h.lt
 obtain⟨ox,hox,hsx⟩:=hsp.obj
 obtain⟨w1,hw1⟩:∃w1,w1=((((w.alloc (.cells #[.pointer (some ⟨x,0,none⟩),.int .i64 (sz:Int),.int .i64 lf,.pointer (some ⟨t,0,none⟩)] 103)).alloc (.cells #[.int .i64 1] 3)).alloc (.cells #[.slice none 0 0] 37)).alloc (.cells #[.int .i64 0] 34)).alloc (.cells #[.slice none 0 0] 37):=⟨_,rfl⟩
 have s1:w1.heap.size=w.heap.size+5:=by rw[hw1];simp
 have b1:Below w.heap.size w w1:=by rw[hw1];exact (((((Below.refl _ _).alloc (Nat.le_refl _) _).alloc (by simp) _).alloc (by simp;omega) _).alloc (by simp;omega) _).alloc (by simp;omega) _
 have k0:(w1.heap[w.heap.size+1]?=some (.cells #[.int .i64 1] 3 (0,0))/\w1.heap[w.heap.size+2]?=some (.cells #[.slice none 0 0] 37 (0,0)))/\w1.heap[w.heap.size+3]?=some (.cells #[.int .i64 0] 34 (0,0))/\w1.heap[w.heap.size+4]?=some (.cells #[.slice none 0 0] 37 (0,0)):=by rw[hw1];exact allocs5 _ _ _ _ _ _
 have HW1:=hid hw1
 have HB:=hid hPO
 have HG0:=hid (groups_any #[.pointer (some ⟨x,0,none⟩),.int .i64 (sz:Int),.int .i64 lf,.pointer (some ⟨t,0,none⟩)] w1)
 clear hPO
 refine (callsIn_wide (n:=5)).1 ?_
 refine callsIn_of_wp_marks Tryz.func53 rfl trivial ?_ rfl
 refine wpIn_wide.2 ?_
 simp only[Tryz.ntmps53,List.size_toArray,List.length_cons,List.length_nil,Nat.reduceAdd,Nat.reduceSub,Array.replicate_succ,Array.replicate_zero,List.push_toArray,List.append_toArray,List.nil_append,List.cons_append]
 go_wp2_with fail
 rw[<- HW1.out]
 refine Calls.mono HG0.out ?_
 rintro e w2 ⟨rfl,hw2⟩
 rw[s1]
 clear HG0 hw1
 go_wp2_with fail
 simp only[Nat.add_assoc,Nat.reduceAdd]
 obtain⟨w3,hw3⟩:∃w3,w3=w1.alloc (.cells #[.pointer (some ⟨x,0,none⟩),.int .i64 (sz:Int),.int .i64 lf,.pointer (some ⟨t,0,none⟩)] 103):=⟨_,rfl⟩
 rw[<- hw3]
 have s3:w3.heap.size=w.heap.size+6:=by rw[hw3];simp[s1]
 have b3:Below w1.heap.size w1 w3:=by rw[hw3];exact (Below.refl _ _).alloc (Nat.le_refl _) _
 have k4:w3.heap[w.heap.size+5]?=some (.cells #[.pointer (some ⟨x,0,none⟩),.int .i64 (sz:Int),.int .i64 lf,.pointer (some ⟨t,0,none⟩)] 103 (0,0)):=by rw[hw3,<- s1];exact World.alloc_heap_new _ _
 obtain⟨QL,hQL⟩:∃QL:List (Nat×Obj),QL=[(x,ox),(w.heap.size+1,.cells #[.int .i64 1] 3 (0,0)),(w.heap.size+2,.cells #[.slice none 0 0] 37 (0,0)),(w.heap.size+3,.cells #[.int .i64 0] 34 (0,0)),(w.heap.size+4,.cells #[.slice none 0 0] 37 (0,0)),(w.heap.size+5,.cells #[.pointer (some ⟨x,0,none⟩),.int .i64 (sz:Int),.int .i64 lf,.pointer (some ⟨t,0,none⟩)] 103 (0,0))]:=⟨_,rfl⟩
 have hB:w.heap.size<=w3.heap.size:=by omega
 obtain⟨I,hI⟩:∃I:Nat×List (Nat×Obj)->List Nat->World->Prop,I=fun c pre W=>GuI Y w w3.heap.size F K N C t L Ms n c pre.length QL W/\(∀q∈pre,frB C L f r sz lf q=[]):=⟨_,rfl⟩
 obtain⟨Ix,hIx⟩:∃Ix:Nat×List (Nat×Obj)->Code->List Nat->World->Prop,Ix=fun c0 c pre W=>c=.ret/\∃pre0 k b g cap cur,pre=pre0++[k]/\(∀q∈pre0,frB C L f r sz lf q=[])/\(frB C L f r sz lf k).head?=some b/\GuI Y w w3.heap.size F K N C t L Ms n (c0.1,[(g,.cells cur 3 (0,0))]) pre.length [(w.heap.size+2,.cells #[.slice (some ⟨g,0,none⟩) 1 cap] 37 (0,0)),(w.heap.size+3,.cells #[.int .i64 0] 34 (0,0))] W/\cur[0]?=some (.int .i64 (b:Int)):=⟨_,rfl⟩
 have hG:GrK F K N C t L Ms n x f r sz (w.heap.size+5) lf w3.heap.size I:=by
  rw[hI]
  exact GuI.grk hlt hB (fun _=>QL) (fun pre=>(∀q∈pre,frB C L f r sz lf q=[])) (fun pre=>by rw[hQL];simp) (fun pre=>by rw[hQL];simp) hsx
 have hIk:∀c pre W o,I c pre W->I c pre (W.putObj (w3.heap.size+1) o):=fun c pre W o q=>by
  rw[hI]at q ⊢
  exact⟨q.1.keep hlt hB (but_put W _ o) (fun q e=>.inr e),q.2⟩
 have hIxk:∀c0 c pre W o,Ix c0 c pre W->Ix c0 c pre (W.putObj (w3.heap.size+1) o):=fun c0 c pre W o q=>by
  rw[hIx]at q ⊢
  obtain⟨q1,p0,k,b,g,cap,cur,q2,q3,q4,q5,q6⟩:=q
  exact⟨q1,p0,k,b,g,cap,cur,q2,q3,q4,q5.keep hlt hB (but_put W _ o) (fun q e=>.inr e),q6⟩
 have I0:∀o1 o2,I (0,[]) [] ((w3.alloc o1).alloc o2):=fun o1 o2=>by
  have bb:Below w3.heap.size w3 ((w3.alloc o1).alloc o2):=((Below.refl _ _).alloc (Nat.le_refl _) _).alloc (by simp) _
  have b13:Below w1.heap.size w1 ((w3.alloc o1).alloc o2):=b3.trans (bb.mono (by omega))
  have bw:Below w.heap.size w ((w3.alloc o1).alloc o2):=b1.trans (b13.mono (by omega))
  rw[hI]
  refine⟨⟨Y,K,h.below bw,by omega,fun q _ e=>e,But.of_below bw,by simp,by simp,?_⟩,by simp⟩
  rw[hQL]
  intro p hp
  simp only[List.mem_cons,List.not_mem_nil,or_false]at hp
  have hxl:=(Array.getElem?_eq_some_iff.1 hox).1
  rcases hp with rfl | rfl | rfl | rfl | rfl | rfl
  ·exact⟨(bw.block _ hxl).trans hox,hx,by simp only;omega⟩
  ·exact⟨(b13.block _ (by omega)).trans k0.1.1,fun e=>by have:=hlt _ e;omega,by simp only;omega⟩
  ·exact⟨(b13.block _ (by omega)).trans k0.1.2,fun e=>by have:=hlt _ e;omega,by simp only;omega⟩
  ·exact⟨(b13.block _ (by omega)).trans k0.2.1,fun e=>by have:=hlt _ e;omega,by simp only;omega⟩
  ·exact⟨(b13.block _ (by omega)).trans k0.2.2,fun e=>by have:=hlt _ e;omega,by simp only;omega⟩
  ·exact⟨(bb.block _ (by omega)).trans k4,fun e=>by have:=hlt _ e;omega,by simp only;omega⟩
 have hpp:indexN r<=pagesN r:=by unfold pagesN;omega
 have HIT:=hid (groups_it F K N C t L Ms n x f r sz (w.heap.size+5) lf w3.heap.size I Ix w3 3 (by omega) hG (by omega) hsz hr hf1 hf2 (fun j hj=>hpg j (by omega)))
 have hkn:∀k,k<((sz-1) / 480+1)->indexN r+k<pagesN r:=fun k hk=>by unfold pagesN countsN partsN;omega
 have HB0:Hid (∀l c0 pre k W (nn:Nat),k<((sz-1) / 480+1)->I c0 pre W->pre.length<1000->frB C L f r sz lf k=[]->CallsIn (Fence.wide.inRound l) nn Tryz.prog 97 #[.agg #[.pointer (some ⟨x,0,none⟩),.int .i64 (sz:Int),.int .i64 lf,.pointer (some ⟨t,0,none⟩),.pointer (some ⟨F.st,0,none⟩),.bool (bgn C f r lf),.int .i64 (k:Int),.int .i64 (bkN sz k:Int),.int .i64 (zrI C L f sz k),.bool (abB C L f r lf k)],.int .i64 1] W fun e W'=>∃tv W2,e=.returned (.tuple #[tv,.int .i64 0])/\(Builtin.append_ #[37,37] 37 #[.slice none 0 0,tv]).run Tryz.prog W'=.ok (.slice none 0 0) W2/\((W'.cell? ⟨w.heap.size+4,0,none⟩=some (.slice none 0 0)/\W2.cell? ⟨w.heap.size+4,0,none⟩=some (.slice none 0 0)/\W2.frozen? ⟨w.heap.size+4,0,none⟩=false)/\(W2.setCell ⟨w.heap.size+4,0,none⟩ (.slice none 0 0)).cell? ⟨w.heap.size+4,0,none⟩=some ((.slice none 0 0))/\(W2.setCell ⟨w.heap.size+4,0,none⟩ (.slice none 0 0)).cell? ⟨w.heap.size+1,0,none⟩=some (.int .i64 1))/\Dl2 w3.heap.size W (W2.setCell ⟨w.heap.size+4,0,none⟩ (.slice none 0 0))/\I c0 (pre++[k]) (W2.setCell ⟨w.heap.size+4,0,none⟩ (.slice none 0 0))):=fun l c0 pre k W nn hk hi hlen hfe=>by
  rw[hI]at hi
  obtain⟨hu,hj⟩:=hi
  obtain⟨Y',K',o1,o2,o3,o4,o5⟩:=hu.call hlt hB
  have hmx:(x,ox)∈QL:=by rw[hQL];simp
  have m1:(w.heap.size+1,.cells #[.int .i64 1] 3 (0,0))∈QL:=by rw[hQL];simp
  have m2:(w.heap.size+2,.cells #[.slice none 0 0] 37 (0,0))∈QL:=by rw[hQL];simp
  have m3:(w.heap.size+3,.cells #[.int .i64 0] 34 (0,0))∈QL:=by rw[hQL];simp
  have m4:(w.heap.size+4,.cells #[.slice none 0 0] 37 (0,0))∈QL:=by rw[hQL];simp
  have hkp:=hkn k hk
  have hxl:=(Array.getElem?_eq_some_iff.1 hox).1
  have GP:GpC Y' W F K' N C t L Ms n x f r k:=⟨o1,hsx W (o3 _ hmx).1,(o3 _ hmx).2.1,hr,by omega,by omega,by omega,by omega,hpg _ hkp⟩
  refine CallsIn.inRound l (callsIn_wide.2 (Calls.mono (GP.lowestFree (nk:=bkN sz k) (sz:=(sz:Int)) (lf:=lf) (zk:=zrI C L f sz k) (b:=(bgn C f r lf)) (ab:=abB C L f r lf k) (bkN_le sz k) 1 (by omega)) ?_))
  rintro e W' ⟨tv,Y'',rfl,hrow,htv,k2,k3,k4⟩
  have k1:K'+2<=K'+2:=Nat.le_refl _
  have hfl:frl (spgA C L f (indexN r+k)) (cpg (bgn C f r lf) r (indexN r+k) (C (f+(indexN r+k)))) (bkN sz k)=[]:=by
   unfold frB at hfe
   exact List.map_eq_nil_iff.1 hfe
  unfold spgA at hfl
  rw[hfl]at hrow
  obtain⟨W2,hrun,hgr⟩:=app_nil0 (ty:=37) hrow
  obtain⟨u1,u2⟩:=o5 (K'+2) Y'' W' k1 k2 k3 k4
  have bg:But (fun _=>False) W' W2:=But.of_grown (But.refl _ _) hgr (by simp)
  have u3:=u1.keep hlt hB bg (fun q e=>e.elim)
  have sW':w3.heap.size+2<=W'.heap.size:=by
   obtain⟨_,_,_,_,_,_,q5,_⟩:=u1
   exact q5
  have sW2:=bg.size
  obtain⟨Y5,K5,a1,a2,a3,a4,a5⟩:=u1.call hlt hB
  obtain⟨Y6,K6,c1,c2,c3,c4,c5⟩:=u3.call hlt hB
  have hh:((W'.heap[w.heap.size+4]?=some (.cells #[.slice none 0 0] 37 (0,0))/\W'.heap[w.heap.size+1]?=some (.cells #[.int .i64 1] 3 (0,0)))/\(W2.heap[w.heap.size+1]?=some (.cells #[.int .i64 1] 3 (0,0))/\W2.heap[w.heap.size+2]?=some (.cells #[.slice none 0 0] 37 (0,0)))/\W2.heap[w.heap.size+3]?=some (.cells #[.int .i64 0] 34 (0,0))/\W2.heap[w.heap.size+4]?=some (.cells #[.slice none 0 0] 37 (0,0))):=⟨⟨(a3 _ m4).1,(a3 _ m1).1⟩,⟨(c3 _ m1).1,(c3 _ m2).1⟩,(c3 _ m3).1,(c3 _ m4).1⟩
  have bs4:=but_set W2 (w.heap.size+4) 0 (.slice none 0 0)
  have x4:=set_heap (v:=(.slice none 0 0)) hh.2.2.2
  have x1:=(bs4.block (w.heap.size+1) (by omega) (by omega)).trans hh.2.1.1
  have hha:((W'.cell? ⟨w.heap.size+4,0,none⟩=some (.slice none 0 0)/\W2.cell? ⟨w.heap.size+4,0,none⟩=some (.slice none 0 0)/\W2.frozen? ⟨w.heap.size+4,0,none⟩=false)/\(W2.setCell ⟨w.heap.size+4,0,none⟩ (.slice none 0 0)).cell? ⟨w.heap.size+4,0,none⟩=some ((.slice none 0 0))/\(W2.setCell ⟨w.heap.size+4,0,none⟩ (.slice none 0 0)).cell? ⟨w.heap.size+1,0,none⟩=some (.int .i64 1)):=⟨⟨by simp[World.cell?,hh.1.1],by simp[World.cell?,hh.2.2.2],by simp[World.frozen?,hh.2.2.2]⟩,by simp only[World.cell?,x4];rfl,by simp only[World.cell?,x1];rfl⟩
  refine⟨tv,W2,rfl,hrun,hha,(u2.trans (Dl2.of_but bg (by omega) (fun e=>e) (fun e=>e))).trans (Dl2.of_but bs4 (by omega) (by omega) (by omega)),?_⟩
  rw[hI]
  refine⟨?_,fun q hq=>?_⟩
  ·rw[List.length_append,List.length_singleton]
   refine u3.set hlt hB bs4 ⟨by omega,by omega⟩ ⟨_,m4⟩ (set_heap _ hh.2.2.2) (fun p hp=>?_)
   by_cases hp4:p.1=w.heap.size+4
   ·left
    rw[hQL]at hp
    simp only[List.mem_cons,List.not_mem_nil,or_false]at hp
    rcases hp with rfl | rfl | rfl | rfl | rfl | rfl
    ·simp only at hp4;omega
    ·simp only at hp4;omega
    ·simp only at hp4;omega
    ·simp only at hp4;omega
    ·rfl
    ·simp only at hp4;omega
   ·exact .inr ⟨hp,hp4⟩
  ·rw[List.mem_append,List.mem_singleton]at hq
   rcases hq with hq | rfl
   ·exact hj q hq
   ·exact hfe
 have HB1:Hid (∀l c0 pre k W (nn:Nat) b,k<((sz-1) / 480+1)->I c0 pre W->pre.length<1000->(frB C L f r sz lf k).head?=some b->CallsIn (Fence.wide.inRound l) nn Tryz.prog 97 #[.agg #[.pointer (some ⟨x,0,none⟩),.int .i64 (sz:Int),.int .i64 lf,.pointer (some ⟨t,0,none⟩),.pointer (some ⟨F.st,0,none⟩),.bool (bgn C f r lf),.int .i64 (k:Int),.int .i64 (bkN sz k:Int),.int .i64 (zrI C L f sz k),.bool (abB C L f r lf k)],.int .i64 1] W fun e W'=>∃tv W2 g cap,e=.returned (.tuple #[tv,.int .i64 0])/\(Builtin.append_ #[37,37] 37 #[.slice none 0 0,tv]).run Tryz.prog W'=.ok (.slice (some ⟨g,0,none⟩) 1 cap) W2/\(((W'.cell? ⟨w.heap.size+4,0,none⟩=some (.slice none 0 0)/\W2.cell? ⟨w.heap.size+4,0,none⟩=some (.slice none 0 0)/\W2.frozen? ⟨w.heap.size+4,0,none⟩=false)/\(W2.setCell ⟨w.heap.size+4,0,none⟩ (.slice (some ⟨g,0,none⟩) 1 cap)).cell? ⟨w.heap.size+4,0,none⟩=some ((.slice (some ⟨g,0,none⟩) 1 cap))/\(W2.setCell ⟨w.heap.size+4,0,none⟩ (.slice (some ⟨g,0,none⟩) 1 cap)).cell? ⟨w.heap.size+1,0,none⟩=some (.int .i64 1))/\(((W2.setCell ⟨w.heap.size+4,0,none⟩ (.slice (some ⟨g,0,none⟩) 1 cap)).cell? ⟨w.heap.size+2,0,none⟩=some (.slice none 0 0)/\(W2.setCell ⟨w.heap.size+4,0,none⟩ (.slice (some ⟨g,0,none⟩) 1 cap)).frozen? ⟨w.heap.size+2,0,none⟩=false)/\((W2.setCell ⟨w.heap.size+4,0,none⟩ (.slice (some ⟨g,0,none⟩) 1 cap)).setCell ⟨w.heap.size+2,0,none⟩ (.slice (some ⟨g,0,none⟩) 1 cap)).cell? ⟨w.heap.size+3,0,none⟩=some (.int .i64 0)/\((W2.setCell ⟨w.heap.size+4,0,none⟩ (.slice (some ⟨g,0,none⟩) 1 cap)).setCell ⟨w.heap.size+2,0,none⟩ (.slice (some ⟨g,0,none⟩) 1 cap)).frozen? ⟨w.heap.size+3,0,none⟩=false))/\Dl2 w3.heap.size W (((W2.setCell ⟨w.heap.size+4,0,none⟩ (.slice (some ⟨g,0,none⟩) 1 cap)).setCell ⟨w.heap.size+2,0,none⟩ (.slice (some ⟨g,0,none⟩) 1 cap)).setCell ⟨w.heap.size+3,0,none⟩ (.int .i64 0))/\Ix c0 .ret (pre++[k]) (((W2.setCell ⟨w.heap.size+4,0,none⟩ (.slice (some ⟨g,0,none⟩) 1 cap)).setCell ⟨w.heap.size+2,0,none⟩ (.slice (some ⟨g,0,none⟩) 1 cap)).setCell ⟨w.heap.size+3,0,none⟩ (.int .i64 0))):=fun l c0 pre k W nn b hk hi hlen hfe=>by
  rw[hI]at hi
  obtain⟨hu,hj⟩:=hi
  obtain⟨Y',K',o1,o2,o3,o4,o5⟩:=hu.call hlt hB
  have hmx:(x,ox)∈QL:=by rw[hQL];simp
  have m1:(w.heap.size+1,.cells #[.int .i64 1] 3 (0,0))∈QL:=by rw[hQL];simp
  have m2:(w.heap.size+2,.cells #[.slice none 0 0] 37 (0,0))∈QL:=by rw[hQL];simp
  have m3:(w.heap.size+3,.cells #[.int .i64 0] 34 (0,0))∈QL:=by rw[hQL];simp
  have m4:(w.heap.size+4,.cells #[.slice none 0 0] 37 (0,0))∈QL:=by rw[hQL];simp
  have hkp:=hkn k hk
  have hxl:=(Array.getElem?_eq_some_iff.1 hox).1
  have GP:GpC Y' W F K' N C t L Ms n x f r k:=⟨o1,hsx W (o3 _ hmx).1,(o3 _ hmx).2.1,hr,by omega,by omega,by omega,by omega,hpg _ hkp⟩
  refine CallsIn.inRound l (callsIn_wide.2 (Calls.mono (GP.lowestFree (nk:=bkN sz k) (sz:=(sz:Int)) (lf:=lf) (zk:=zrI C L f sz k) (b:=(bgn C f r lf)) (ab:=abB C L f r lf k) (bkN_le sz k) 1 (by omega)) ?_))
  rintro e W' ⟨tv,Y'',rfl,hrow,htv,k2,k3,k4⟩
  have k1:K'+2<=K'+2:=Nat.le_refl _
  obtain⟨i1,tl,hfl⟩:∃i1 tl,frl (spgA C L f (indexN r+k)) (cpg (bgn C f r lf) r (indexN r+k) (C (f+(indexN r+k)))) (bkN sz k)=i1 :: tl:=by
   unfold frB at hfe
   cases hq:frl (spgA C L f (indexN r+k)) (cpg (bgn C f r lf) r (indexN r+k) (C (f+(indexN r+k)))) (bkN sz k) with
   | nil=>rw[hq]at hfe;simp at hfe
   | cons i1 tl=>exact⟨i1,tl,rfl⟩
  have hb1:b=480 * k+i1+1:=by
   unfold frB at hfe
   rw[hfl]at hfe
   simpa using hfe.symm
  have hfl2:=hfl
  unfold spgA at hfl
  rw[hfl]at hrow
  simp only[List.take_succ_cons,List.take_zero,List.length_singleton,List.map_cons,List.map_nil]at hrow
  rw[<- hb1]at hrow
  obtain⟨g,cap,cur,W2,hrun,hgc,hgl,hcu,hgr⟩:=app_nil1 (ty:=37) hrow
  obtain⟨u1,u2⟩:=o5 (K'+2) Y'' W' k1 k2 k3 k4
  have bg:But (fun _=>False) W' W2:=But.of_grown (But.refl _ _) hgr (by simp)
  have u3:=u1.keep hlt hB bg (fun q e=>e.elim)
  have sW':w3.heap.size+2<=W'.heap.size:=by
   obtain⟨_,_,_,_,_,_,q5,_⟩:=u1
   exact q5
  have sW2:=bg.size
  obtain⟨Y5,K5,a1,a2,a3,a4,a5⟩:=u1.call hlt hB
  obtain⟨Y6,K6,c1,c2,c3,c4,c5⟩:=u3.call hlt hB
  have hh:((W'.heap[w.heap.size+4]?=some (.cells #[.slice none 0 0] 37 (0,0))/\W'.heap[w.heap.size+1]?=some (.cells #[.int .i64 1] 3 (0,0)))/\(W2.heap[w.heap.size+1]?=some (.cells #[.int .i64 1] 3 (0,0))/\W2.heap[w.heap.size+2]?=some (.cells #[.slice none 0 0] 37 (0,0)))/\W2.heap[w.heap.size+3]?=some (.cells #[.int .i64 0] 34 (0,0))/\W2.heap[w.heap.size+4]?=some (.cells #[.slice none 0 0] 37 (0,0))):=⟨⟨(a3 _ m4).1,(a3 _ m1).1⟩,⟨(c3 _ m1).1,(c3 _ m2).1⟩,(c3 _ m3).1,(c3 _ m4).1⟩
  have bs4:=but_set W2 (w.heap.size+4) 0 (.slice (some ⟨g,0,none⟩) 1 cap)
  have x4:=set_heap (v:=(.slice (some ⟨g,0,none⟩) 1 cap)) hh.2.2.2
  have x1:=(bs4.block (w.heap.size+1) (by omega) (by omega)).trans hh.2.1.1
  have hha:((W'.cell? ⟨w.heap.size+4,0,none⟩=some (.slice none 0 0)/\W2.cell? ⟨w.heap.size+4,0,none⟩=some (.slice none 0 0)/\W2.frozen? ⟨w.heap.size+4,0,none⟩=false)/\(W2.setCell ⟨w.heap.size+4,0,none⟩ (.slice (some ⟨g,0,none⟩) 1 cap)).cell? ⟨w.heap.size+4,0,none⟩=some ((.slice (some ⟨g,0,none⟩) 1 cap))/\(W2.setCell ⟨w.heap.size+4,0,none⟩ (.slice (some ⟨g,0,none⟩) 1 cap)).cell? ⟨w.heap.size+1,0,none⟩=some (.int .i64 1)):=⟨⟨by simp[World.cell?,hh.1.1],by simp[World.cell?,hh.2.2.2],by simp[World.frozen?,hh.2.2.2]⟩,by simp only[World.cell?,x4];rfl,by simp only[World.cell?,x1];rfl⟩
  have bs2:=but_set (W2.setCell ⟨w.heap.size+4,0,none⟩ (.slice (some ⟨g,0,none⟩) 1 cap)) (w.heap.size+2) 0 (.slice (some ⟨g,0,none⟩) 1 cap)
  have bs3:=but_set ((W2.setCell ⟨w.heap.size+4,0,none⟩ (.slice (some ⟨g,0,none⟩) 1 cap)).setCell ⟨w.heap.size+2,0,none⟩ (.slice (some ⟨g,0,none⟩) 1 cap)) (w.heap.size+3) 0 (.int .i64 0)
  have s4:=bs4.size
  have s5:=bs2.size
  have e2:=(bs4.block (w.heap.size+2) (by omega) (by omega)).trans hh.2.1.2
  have e3:=(bs2.block (w.heap.size+3) (by omega) (by omega)).trans ((bs4.block (w.heap.size+3) (by omega) (by omega)).trans hh.2.2.1)
  have hhb:(((W2.setCell ⟨w.heap.size+4,0,none⟩ (.slice (some ⟨g,0,none⟩) 1 cap)).cell? ⟨w.heap.size+2,0,none⟩=some (.slice none 0 0)/\(W2.setCell ⟨w.heap.size+4,0,none⟩ (.slice (some ⟨g,0,none⟩) 1 cap)).frozen? ⟨w.heap.size+2,0,none⟩=false)/\((W2.setCell ⟨w.heap.size+4,0,none⟩ (.slice (some ⟨g,0,none⟩) 1 cap)).setCell ⟨w.heap.size+2,0,none⟩ (.slice (some ⟨g,0,none⟩) 1 cap)).cell? ⟨w.heap.size+3,0,none⟩=some (.int .i64 0)/\((W2.setCell ⟨w.heap.size+4,0,none⟩ (.slice (some ⟨g,0,none⟩) 1 cap)).setCell ⟨w.heap.size+2,0,none⟩ (.slice (some ⟨g,0,none⟩) 1 cap)).frozen? ⟨w.heap.size+3,0,none⟩=false):=⟨⟨by simp only[World.cell?,e2];rfl,by simp only[World.frozen?,e2];rfl⟩,by simp only[World.cell?,e3];rfl,by simp only[World.frozen?,e3];rfl⟩
  refine⟨tv,W2,g,cap,rfl,hrun,⟨hha,hhb⟩,(((u2.trans (Dl2.of_but bg (by omega) (fun e=>e) (fun e=>e))).trans (Dl2.of_but bs4 (by omega) (by omega) (by omega))).trans (Dl2.of_but bs2 (by omega) (by omega) (by omega))).trans (Dl2.of_but bs3 (by omega) (by omega) (by omega)),?_⟩
  rw[hIx]
  refine⟨rfl,pre,k,b,g,cap,cur,rfl,hj,hfe,?_,hcu⟩
  rw[List.length_append,List.length_singleton]
  have v0:GuI Y w w3.heap.size F K N C t L Ms n (c0.1,[(g,.cells cur 3 (0,0))]) (pre.length+1) QL W2:=by
   obtain⟨Y7,K7,f1,f2,f3,f4,f5,f6,f7⟩:=u1
   have gY:¬Y7 g:=fun e=>by have:=f1.lt _ e;omega
   refine⟨Y7,K7,f1.keep bg (fun _ _ e _=>e),f2,f3,f4.comp bg (fun _ _ e=>e.elim),by omega,fun p hp=>?_,fun p hp=>?_⟩
   ·simp only[List.mem_singleton]at hp
    subst hp
    exact⟨hgc,gY,by simp only;omega⟩
   ·obtain⟨p1,p2,p3⟩:=f7 p hp
    exact⟨(bg.block p.1 (by omega) (fun e=>e)).trans p1,p2,p3⟩
  have v1:=v0.set hlt hB bs4 ⟨by omega,by omega⟩ ⟨_,m4⟩ (set_heap _ hh.2.2.2) (Qs':=[(w.heap.size+2,.cells #[.slice none 0 0] 37 (0,0)),(w.heap.size+3,.cells #[.int .i64 0] 34 (0,0))]) (fun p hp=>by
   simp only[List.mem_cons,List.not_mem_nil,or_false]at hp
   rcases hp with rfl | rfl
   ·exact .inr ⟨m2,by simp only;omega⟩
   ·exact .inr ⟨m3,by simp only;omega⟩)
  have v2:=v1.set hlt hB bs2 ⟨by omega,by omega⟩ ⟨.cells #[.slice none 0 0] 37 (0,0),by simp⟩ (set_heap _ e2) (Qs':=[(w.heap.size+2,.cells #[.slice (some ⟨g,0,none⟩) 1 cap] 37 (0,0)),(w.heap.size+3,.cells #[.int .i64 0] 34 (0,0))]) (fun p hp=>by
   simp only[List.mem_cons,List.not_mem_nil,or_false]at hp ⊢
   rcases hp with rfl | rfl
   ·exact .inl rfl
   ·exact .inr ⟨.inr rfl,by simp only;omega⟩)
  exact v2.set hlt hB bs3 ⟨by omega,by omega⟩ ⟨.cells #[.int .i64 0] 34 (0,0),by simp⟩ (set_heap _ e3) (Qs':=[(w.heap.size+2,.cells #[.slice (some ⟨g,0,none⟩) 1 cap] 37 (0,0)),(w.heap.size+3,.cells #[.int .i64 0] 34 (0,0))]) (fun p hp=>by
   simp only[List.mem_cons,List.not_mem_nil,or_false]at hp ⊢
   rcases hp with rfl | rfl
   ·exact .inr ⟨.inl rfl,by simp only;omega⟩
   ·exact .inl rfl)
 have hIb:∀c pre W W',Below W.heap.size W W'->I c pre W->I c pre W':=fun c pre W W' bb q=>by
  rw[hI]at q ⊢
  exact⟨q.1.keep hlt hB (But.of_below bb (X:=fun _=>False)) (fun q e=>e.elim),q.2⟩
 have HEnd:Hid (∀D c0 xs W,w3.heap.size=D->xs=gls C L f sz ((sz-1) / 480+1)->I c0 xs W->W.heap[D]?=some (.deferred (some []))->((W.cell? ⟨w.heap.size+2,0,none⟩=some (.slice none 0 0)/\W.frozen? ⟨w.heap.size+2,0,none⟩=false)/\W.cell? ⟨w.heap.size+3,0,none⟩=some (.int .i64 0)/\W.frozen? ⟨w.heap.size+3,0,none⟩=false) /\
   ((W.setCell ⟨w.heap.size+2,0,none⟩ (.slice none 0 0)).setCell ⟨w.heap.size+3,0,none⟩ (.int .i64 64)).heap[D]?=some (.deferred (some [])) /\
   ((((W.setCell ⟨w.heap.size+2,0,none⟩ (.slice none 0 0)).setCell ⟨w.heap.size+3,0,none⟩ (.int .i64 64)).putObj D (.deferred none)).cell? ⟨w.heap.size+2,0,none⟩=some (.slice none 0 0)/\(((W.setCell ⟨w.heap.size+2,0,none⟩ (.slice none 0 0)).setCell ⟨w.heap.size+3,0,none⟩ (.int .i64 64)).putObj D (.deferred none)).cell? ⟨w.heap.size+3,0,none⟩=some (.int .i64 64)) /\
   PO (.returned (.tuple #[.slice none 0 0,.int .i64 64])) (((W.setCell ⟨w.heap.size+2,0,none⟩ (.slice none 0 0)).setCell ⟨w.heap.size+3,0,none⟩ (.int .i64 64)).putObj D (.deferred none))):=fun D c0 xs W hD hS hi hDk=>by
  rw[hI]at hi
  obtain⟨hu,hj⟩:=hi
  have bs1:=but_set W (w.heap.size+2) 0 (.slice none 0 0)
  have bs2:=but_set (W.setCell ⟨w.heap.size+2,0,none⟩ (.slice none 0 0)) (w.heap.size+3) 0 (.int .i64 64)
  have bp:=but_put ((W.setCell ⟨w.heap.size+2,0,none⟩ (.slice none 0 0)).setCell ⟨w.heap.size+3,0,none⟩ (.int .i64 64)) D (.deferred none)
  obtain⟨Y',K',o1,o2,o3,o4,o5⟩:=hu.call hlt hB
  have m2:(w.heap.size+2,.cells #[.slice none 0 0] 37 (0,0))∈QL:=by rw[hQL];simp
  have m3:(w.heap.size+3,.cells #[.int .i64 0] 34 (0,0))∈QL:=by rw[hQL];simp
  have c1:=(o3 _ m2).1
  have c2:=(o3 _ m3).1
  simp only at c1 c2
  have hDl:=(Array.getElem?_eq_some_iff.1 hDk).1
  have u1:=hu.set hlt hB bs1 ⟨by omega,by omega⟩ ⟨_,m2⟩ (set_heap _ c1) (Qs':=[(w.heap.size+2,.cells #[.slice none 0 0] 37 (0,0)),(w.heap.size+3,.cells #[.int .i64 0] 34 (0,0))]) (fun p hp=>by
   simp only[List.mem_cons,List.not_mem_nil,or_false]at hp
   rcases hp with rfl | rfl
   ·exact .inl rfl
   ·exact .inr ⟨m3,by simp only;omega⟩)
  have c2':=(bs1.block (w.heap.size+3) (Array.getElem?_eq_some_iff.1 c2).1 (by omega)).trans c2
  have u2:=u1.set hlt hB bs2 ⟨by omega,by omega⟩ ⟨.cells #[.int .i64 0] 34 (0,0),by simp⟩ (set_heap _ c2') (Qs':=[(w.heap.size+2,.cells #[.slice none 0 0] 37 (0,0)),(w.heap.size+3,.cells #[.int .i64 64] 34 (0,0))]) (fun p hp=>by
   simp only[List.mem_cons,List.not_mem_nil,or_false]at hp ⊢
   rcases hp with rfl | rfl
   ·exact .inr ⟨.inl rfl,by simp only;omega⟩
   ·exact .inl rfl)
  have u3:=u2.keep hlt hB bp (fun q e=>.inl (by omega))
  obtain⟨Y4,K4,q1,q2,q3,q4,q5,q6,q7⟩:=u3
  have d1:=(q7 (w.heap.size+2,.cells #[.slice none 0 0] 37 (0,0)) (by simp)).1
  have d2:=(q7 (w.heap.size+3,.cells #[.int .i64 64] 34 (0,0)) (by simp)).1
  simp only at d1 d2
  refine⟨⟨⟨by simp[World.cell?,c1],by simp[World.frozen?,c1]⟩,by simp[World.cell?,c2],by simp[World.frozen?,c2]⟩,?_,⟨by simp only[World.cell?,d1];rfl,by simp only[World.cell?,d2];rfl⟩,?_⟩
  ·exact (bs2.block D (Nat.lt_of_lt_of_le hDl bs1.size) (by omega)).trans ((bs1.block D hDl (by omega)).trans hDk)
  ·have hgl:=gls_len C L f sz ((sz-1) / 480+1)
   rw[HPO.out]
   rw[hS]at q2 hj
   exact⟨K4,Y4,by omega,q1,fun q hq e=>q3 q (by omega) e,q4,.inl ⟨rfl,by rw[List.flatMap_eq_nil_iff];exact hj⟩⟩
 have HStp:Hid (∀D c0 c pre W,w3.heap.size=D->(∃m,m<((sz-1) / 480+1)/\pre=gls C L f sz (m+1)/\c0.1<=600)->Ix c0 c pre W->W.heap[D]?=some (.deferred (some []))->c=.ret/\∃g cap,((W.putObj D (.deferred none)).cell? ⟨w.heap.size+2,0,none⟩=some (.slice (some ⟨g,0,none⟩) 1 cap)/\(W.putObj D (.deferred none)).cell? ⟨w.heap.size+3,0,none⟩=some (.int .i64 0))/\PO (.returned (.tuple #[.slice (some ⟨g,0,none⟩) 1 cap,.int .i64 0])) (W.putObj D (.deferred none))):=fun D c0 c pre W hD hSp hi hDk=>by
  rw[hIx]at hi
  obtain⟨m,hm1,hm2,hm3⟩:=hSp
  obtain⟨q1,p0,k,b,g,cap,cur,e2,e3,e4,e5,e6⟩:=hi
  have u3:=e5.keep hlt hB (but_put W D (.deferred none)) (fun q e=>.inl (by omega))
  obtain⟨Y4,K4,q1',q2,q3,q4,q5,q6,q7⟩:=u3
  have d1:=(q7 (w.heap.size+2,.cells #[.slice (some ⟨g,0,none⟩) 1 cap] 37 (0,0)) (by simp)).1
  have d2:=(q7 (w.heap.size+3,.cells #[.int .i64 0] 34 (0,0)) (by simp)).1
  have d3:=q6 (g,.cells cur 3 (0,0)) (by simp)
  simp only at d1 d2 d3
  refine⟨q1,g,cap,⟨by simp only[World.cell?,d1];rfl,by simp only[World.cell?,d2];rfl⟩,?_⟩
  have hgl:=gls_len C L f sz (m+1)
  rw[HPO.out]
  refine⟨K4,Y4,?_,q1',fun q hq e=>q3 q (by omega) e,q4,.inr ⟨g,cap,b,rfl,?_,?_,d3.2.1,by omega⟩⟩
  ·rw[hm2]at q2
   simp only at q2
   omega
  ·obtain⟨l,hl⟩:=gls_prefix C L f sz (m:=m+1) (k:=((sz-1) / 480+1)) (by omega)
   rw[hl,<- hm2,e2,List.flatMap_append,List.flatMap_append,List.flatMap_eq_nil_iff.2 e3]
   simp only[List.flatMap_cons,List.flatMap_nil,List.append_nil,List.nil_append]
   rw[List.head?_append,e4]
   rfl
  ·simp only[World.cell?,d3.1]
   simpa using e6
 have HT0:Hid (∀c0 pre W,I c0 pre W->W.cell? ⟨w.heap.size+4,0,none⟩=some (.slice none 0 0)/\W.cell? ⟨w.heap.size+1,0,none⟩=some (.int .i64 1)):=fun c0 pre W hi=>by
  rw[hI]at hi
  obtain⟨Y',K',o1,o2,o3,o4,o5⟩:=hi.1.call hlt hB
  have t4:=(o3 (w.heap.size+4,.cells #[.slice none 0 0] 37 (0,0)) (by rw[hQL];simp)).1
  have t1:=(o3 (w.heap.size+1,.cells #[.int .i64 1] 3 (0,0)) (by rw[hQL];simp)).1
  simp only at t4 t1
  exact⟨by simp[World.cell?,t4],by simp[World.cell?,t1]⟩
 have HIb:=hid hIb
 have HIk:=hid hIk
 have HIxk:=hid hIxk
 have H0:=hid I0
 have HS3:=hid s3
 have HS1:=hid s1
 clear hI hIx hIb hIk hIxk I0 hG hQL hw3 hw2 b3 k4 k0 b1 hkn h hsp hpg HW1
 refine (wpIn_wide (n:=4)).1 ?_
 refine rfLawG (F:=Fence.wide) (n:=4) rfl (by omega) (gf:=144) (lb:=#[.pointer (some ⟨w.heap.size+5,0,none⟩)]) rfl trivial (enters_of Tryz.func144 (by kernel_rfl) rfl) (fun _=>rfl) I Ix ?hI ?hIx (0,[]) ?h0 (fun c0 pre k a' W=>I c0 pre W/\∃gb,w3.heap.size+2<=gb/\W.heap[gb]?=some (.cells #[.pointer (some ⟨x,0,none⟩),.int .i64 (sz:Int),.int .i64 lf,.pointer (some ⟨t,0,none⟩),.pointer (some ⟨F.st,0,none⟩),.bool (bgn C f r lf),.int .i64 (k:Int),.int .i64 (bkN sz k:Int),.int .i64 (zrI C L f sz k),.bool (abB C L f r lf k)] 166 (0,0))/\a'={ tmps:=#[Value.agg #[Value.pointer (some { block:=x,off:=0 }),Value.int IntKind.i64 ↑sz,Value.int IntKind.i64 lf,Value.pointer (some { block:=t,off:=0 })],Value.int IntKind.i64 1,Value.pointer (some { block:=w.heap.size,off:=0 }),Value.pointer (some { block:=w.heap.size+1,off:=0 }),Value.pointer (some { block:=w.heap.size+2,off:=0 }),Value.pointer (some { block:=w.heap.size+3,off:=0 }),Value.pointer (some { block:=w.heap.size+4,off:=0 }),Value.pointer (some ⟨gb,0,none⟩),Value.int IntKind.i64 0,undef,undef,Value.agg #[Value.pointer (some { block:=x,off:=0 }),Value.int IntKind.i64 ↑sz,Value.int IntKind.i64 lf,Value.pointer (some { block:=t,off:=0 })],Value.func (Fn.func 144) #[] #[Value.pointer (some { block:=w.heap.size+5,off:=0 })],Value.agg #[.pointer (some ⟨x,0,none⟩),.int .i64 (sz:Int),.int .i64 lf,.pointer (some ⟨t,0,none⟩),.pointer (some ⟨F.st,0,none⟩),.bool (bgn C f r lf),.int .i64 (k:Int),.int .i64 (bkN sz k:Int),.int .i64 (zrI C L f sz k),.bool (abB C L f r lf k)],Value.int IntKind.i64 0,undef,undef,undef,undef,undef,undef,undef,undef,undef,undef,undef,undef,undef,undef,undef,undef,undef,undef,undef,undef,undef,undef,undef],defers:=[] }) ?hAx HIT.out ?assign ?body ?done ?stop
 case hI=>exact fun c0 pre W o _ q=>HIk.out c0 pre W o q
 case hIx=>exact fun c0 c pre W o _ q=>HIxk.out c0 c pre W o q
 case h0=>exact H0.out
 case hAx=>exact fun c0 pre k a' W o _ q=>⟨HIk.out c0 pre W o q.1,by
   obtain⟨gb,g1,g2,g3⟩:=q.2
   exact⟨gb,g1,(World.putObj_heap_other (by omega)).trans g2,g3⟩⟩
 case assign=>
  intro l c0 pre k W KK hlt' hE hi hlen hK
  clear HIT HEnd HB0 HB1 HStp
  gi_wp2
  have bb:Below W.heap.size W (W.alloc (.cells #[.pointer (some ⟨x,0,none⟩),.int .i64 (sz:Int),.int .i64 lf,.pointer (some ⟨t,0,none⟩),.pointer (some ⟨F.st,0,none⟩),.bool (bgn C f r lf),.int .i64 (k:Int),.int .i64 (bkN sz k:Int),.int .i64 (zrI C L f sz k),.bool (abB C L f r lf k)] 166)):=(Below.refl _ _).alloc (Nat.le_refl _) _
  exact hK _ _ (Dl2.of_below bb (by omega)) ⟨HIb.out _ _ _ _ bb hi,W.heap.size,by omega,World.alloc_heap_new _ _,by simp⟩
 case body=>
  rintro l c0 pre k a' W hlt' ⟨hk,hz1,hz2⟩ ⟨hi,gb,hg1,hg2,rfl⟩ hlen
  have cc:∀i,W.cell? ⟨gb,i,none⟩=#[.pointer (some ⟨x,0,none⟩),.int .i64 (sz:Int),.int .i64 lf,.pointer (some ⟨t,0,none⟩),.pointer (some ⟨F.st,0,none⟩),.bool (bgn C f r lf),.int .i64 (k:Int),.int .i64 (bkN sz k:Int),.int .i64 (zrI C L f sz k),.bool (abB C L f r lf k)][i]?:=fun i=>by simp[World.cell?,hg2]
  have tc:W.cell? ⟨w.heap.size+4,0,none⟩=some (.slice none 0 0)/\W.cell? ⟨w.heap.size+1,0,none⟩=some (.int .i64 1):=HT0.out c0 pre W hi
  obtain⟨tc4,tc1⟩:=tc
  cases hfe:(frB C L f r sz lf k).head? with
  | none=>
   have HC2:=hid (fun nn=>HB0.out l c0 pre k W nn hk hi hlen (List.head?_eq_none_iff.1 hfe))
   clear HIT HEnd HB0 HB1 HStp HIk HIb HIxk H0 hi hg2 hfe HT0
   gi_wp2_with (first | (gi_at_builtin;refine wpListIn_append_run rfl _ _ 37 rfl rfl rfl HRUN.out ?_) | (refine⟨trivial,?_⟩;gi_at_call 97;with_reducible refine (HC2.out _).mono ?_;rintro e W' ⟨tv,W2,rfl,hrun,⟨⟨a1,a2,a3⟩,a4,a5⟩,q1,q2⟩;have HRUN:=hid hrun;have Q1:=hid q1;have Q2:=hid q2;clear hrun q1 q2))
   exact⟨Q1.out,Q2.out⟩
  | some b=>
   have HC2:=hid (fun nn=>HB1.out l c0 pre k W nn b hk hi hlen hfe)
   clear HIT HEnd HB0 HB1 HStp HIk HIb HIxk H0 hi hg2 hfe HT0
   gi_wp2_with (first | (gi_at_builtin;refine wpListIn_append_run rfl _ _ 37 rfl rfl rfl HRUN.out ?_) | (refine⟨trivial,?_⟩;gi_at_call 97;with_reducible refine (HC2.out _).mono ?_;rintro e W' ⟨tv,W2,g,cap,rfl,hrun,⟨⟨⟨a1,a2,a3⟩,a4,a5⟩,⟨a6,a7⟩,a8,a9⟩,q1,q2⟩;have HRUN:=hid hrun;have Q1:=hid q1;have Q2:=hid q2;clear hrun q1 q2))
   exact⟨Q1.out,Q2.out⟩
 case done=>
  rintro D c0 xs W hD ⟨hS,hc⟩ hi hDk
  obtain⟨⟨⟨c1,f1⟩,c2,f2⟩,e1,⟨e2,e3⟩,e4⟩:=HEnd.out D c0 xs W hD hS hi hDk
  have E1:=hid e1
  have E2:=hid e2
  have E3:=hid e3
  have E4:=hid e4
  clear hi hDk hS hD HIT HEnd HB0 HB1 HStp HIk HIb H0 e1 e2 e3 e4 hc
  go_wp2_with fail
  refine⟨by simp,.inl ⟨_,_,rfl,run_takeDeferred E1.out,?_⟩⟩
  exact⟨_,results_cells2 rfl _ _ rfl rfl (loadv_one Tryz.underlying37 rfl E2.out) (loadv_one Tryz.underlying34 rfl E3.out),E4.out⟩
 case stop=>
  rintro D c0 c pre W hD hSp hi hDk
  obtain⟨rfl,g,cap,⟨e2,e3⟩,e4⟩:=HStp.out D c0 c pre W hD hSp hi hDk
  have E1:=hid hDk
  have E2:=hid e2
  have E3:=hid e3
  have E4:=hid e4
  clear hi hDk hSp hD HIT HEnd HB0 HB1 HStp HIk HIb H0 e2 e3 e4
  refine wpIn_wide.2 ?_
  go_wp2_with fail
  refine⟨by simp,.inl ⟨_,_,rfl,run_takeDeferred E1.out,?_⟩⟩
  exact⟨_,results_cells2 rfl _ _ rfl rfl (loadv_one Tryz.underlying37 rfl E2.out) (loadv_one Tryz.underlying34 rfl E3.out),E4.out⟩
end Go.Proofs.YtlefjidbpjkhlaaGreat
