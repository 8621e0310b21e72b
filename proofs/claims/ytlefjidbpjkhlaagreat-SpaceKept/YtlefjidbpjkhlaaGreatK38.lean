import Derived.Test.YtlefjidbpjkhlaaGreatK37
set_option maxRecDepth 100000
set_option maxHeartbeats 16000000
namespace Go.Proofs.YtlefjidbpjkhlaaGreat
variable {b c f r sz t x:Nat}
variable {W' w:World}
variable {X:Nat->Prop}
variable {lf:Int}
variable {P:Program}
variable {v v1 v2:Value}
variable {fn:Func}
open Go.RowKit Go.Deep Go.Shelf
attribute [local go_sem] Oper.semAt_some
def spgA (C:Nat->List Int) (L:Nat->Option (List Int)) (f j:Nat):List Int:=(L (f+j)).getD (C (f+j))
def bkN (sz k:Nat):Nat:=min (sz-480 * k) 480
def zrI (C:Nat->List Int) (L:Nat->Option (List Int)) (f sz k:Nat):Int:=(bkN sz k:Int)-tknZ (spgA C L f (k / 60)) (k % 60)
def abB (C:Nat->List Int) (L:Nat->Option (List Int)) (f r:Nat) (lf:Int) (k:Nat):Bool:=trnZ (spgA C L f (k / 60)) (k % 60) == trnZ (cpg (bgn C f r lf) r (k / 60) (C (f+k / 60))) (k % 60)
def gls (C:Nat->List Int) (L:Nat->Option (List Int)) (f sz m:Nat):List Nat:=(List.range m).filter (fun k=>decide (0<zrI C L f sz k))
theorem gls_succ(C:Nat->List Int)(L:Nat->Option (List Int))(f sz m:Nat):gls C L f sz (m+1)=gls C L f sz m++(if 0<zrI C L f sz m then [m] else []):=by
 unfold gls
 rw[List.range_succ,List.filter_append]
 congr 1
 simp only[List.filter_cons,List.filter_nil,decide_eq_true_eq]
theorem gls_len(C:Nat->List Int)(L:Nat->Option (List Int))(f sz m:Nat):(gls C L f sz m).length<=m:=by
 unfold gls
 exact Nat.le_trans (List.length_filter_le _ _) (by simp)
def GrK (F:Cf) (K0 N:Nat) (C:Nat->List Int) (t:Nat) (L:Nat->Option (List Int)) (Ms:List (Nat->Option (List Int))) (n x f r sz vb:Nat) (lf:Int) (B:Nat) (I:Nat×List (Nat×Obj)->List Nat->World->Prop):Prop :=
 ∀c Ps pre W,I (c,Ps) pre W->∃Y K,Opn Y W F K N C t L Ms n/\(K<=K0+c+2 * pre.length/\c<=600)/\Spb W x f r F.st/\¬Y x/\W.heap[vb]?=some (.cells #[.pointer (some ⟨x,0,none⟩),.int .i64 (sz:Int),.int .i64 lf,.pointer (some ⟨t,0,none⟩)] 103 (0,0))/\¬Y vb/\(¬Y B/\¬Y (B+1))/\(∀p∈Ps,W.heap[p.1]?=some p.2/\¬Y p.1/\B+2<=p.1) /\
  ∀d Ps' K' Y' W',(K'<=K0+(c+d)+2 * pre.length/\c+d<=600)->Opn Y' W' F K' N C t L Ms n->Gr Y Y' W->But Y W W'->(∀p∈Ps',W'.heap[p.1]?=some p.2/\¬Y' p.1/\B+2<=p.1)->I (c+d,Ps') pre W'
def GrH (z1 z2:List Int) (hv bv:Value) (Ps:List (Nat×Obj)):Prop :=
 ∃g cp g2 cp2 o1 o2,hv=.slice (some ⟨g,0,none⟩) 512 cp/\bv=.slice (some ⟨g2,0,none⟩) 512 cp2/\(g,o1)∈Ps/\(g2,o2)∈Ps/\(∀W:World,W.heap[g]?=some o1->Own W g 512 cp z1)/\(∀W:World,W.heap[g2]?=some o2->Own W g2 512 cp2 z2)/\Pl.isB z1/\Pl.isB z2
def GrS (F:Cf) (C:Nat->List Int) (L:Nat->Option (List Int)) (f r sz:Nat) (lf:Int) (I:Nat×List (Nat×Obj)->List Nat->World->Prop) (R:World->Prop) (ob c1 m:Nat) (hv bv:Value) (W:World):Prop :=
 ∃c Ps,I (c,Ps) (gls C L f sz m) W/\R W/\c<=c1+2 * ((m+59) / 60)/\(ob,.cells #[.pointer (some ⟨F.st,0,none⟩),.bool (bgn C f r lf)] 164 (0,0))∈Ps/\(m % 60≠0->GrH (spgA C L f (m / 60)) (cpg (bgn C f r lf) r (m / 60) (C (f+m / 60))) hv bv Ps)
def GrT (F:Cf) (C:Nat->List Int) (L:Nat->Option (List Int)) (f r sz:Nat) (lf:Int) (I:Nat×List (Nat×Obj)->List Nat->World->Prop) (R:World->Prop) (ob c1 m:Nat) (hv bv:Value) (W:World):Prop :=
 ∃c Ps,I (c,Ps) (gls C L f sz m) W/\R W/\c<=c1+2 * ((m+60) / 60)/\(ob,.cells #[.pointer (some ⟨F.st,0,none⟩),.bool (bgn C f r lf)] 164 (0,0))∈Ps/\GrH (spgA C L f (m / 60)) (cpg (bgn C f r lf) r (m / 60) (C (f+m / 60))) hv bv Ps
section
variable {F:Cf} {K0 N:Nat} {C:Nat->List Int} {t:Nat} {L:Nat->Option (List Int)} {Ms:List (Nat->Option (List Int))} {n x f r sz vb:Nat} {lf:Int} {B:Nat} {I:Nat×List (Nat×Obj)->List Nat->World->Prop} {R:World->Prop} {ob c1 m:Nat} {hv bv:Value} {W:World}
theorem GrS.grt(h:GrS F C L f r sz lf I R ob c1 m hv bv W)(hm:m % 60≠0):GrT F C L f r sz lf I R ob c1 m hv bv W:=by
 obtain⟨c,Ps,h1,h2,h3,h4,h5⟩:=h
 exact⟨c,Ps,h1,h2,by omega,h4,h5 hm⟩
theorem GrT.next(h:GrT F C L f r sz lf I R ob c1 m hv bv W)(hz:¬0<zrI C L f sz m):GrS F C L f r sz lf I R ob c1 (m+1) hv bv W:=by
 obtain⟨c,Ps,h1,h2,h3,h4,h5⟩:=h
 refine⟨c,Ps,?_,h2,by omega,h4,fun hm=>?_⟩
 ·rw[gls_succ,if_neg hz,List.append_nil]
  exact h1
 ·rw[show (m+1) / 60=m / 60 by omega]
  exact h5
theorem GrK.cells(hG:GrK F K0 N C t L Ms n x f r sz vb lf B I){Ps:List (Nat×Obj)}{pre:List Nat}(h:I (c,Ps) pre W)(ho:(ob,.cells #[.pointer (some ⟨F.st,0,none⟩),.bool (bgn C f r lf)] 164 (0,0))∈Ps):(W.cell? ⟨vb,0,none⟩=some (.pointer (some ⟨x,0,none⟩))/\W.cell? ⟨vb,1,none⟩=some (.int .i64 (sz:Int))/\W.cell? ⟨vb,2,none⟩=some (.int .i64 lf)/\W.cell? ⟨vb,3,none⟩=some (.pointer (some ⟨t,0,none⟩)))/\(W.cell? ⟨ob,0,none⟩=some (.pointer (some ⟨F.st,0,none⟩))/\W.cell? ⟨ob,1,none⟩=some (.bool (bgn C f r lf))):=by
 obtain⟨Y,K,o1,o2,o3,o4,o5,o6,o7,o8,o9⟩:=hG c Ps pre W h
 have hb:=(o8 _ ho).1
 simp only at hb
 exact⟨⟨by simp[World.cell?,o5],by simp[World.cell?,o5],by simp[World.cell?,o5],by simp[World.cell?,o5]⟩,by simp[World.cell?,hb],by simp[World.cell?,hb]⟩
theorem GrS.cells(hG:GrK F K0 N C t L Ms n x f r sz vb lf B I)(h:GrS F C L f r sz lf I R ob c1 m hv bv W):(W.cell? ⟨vb,0,none⟩=some (.pointer (some ⟨x,0,none⟩))/\W.cell? ⟨vb,1,none⟩=some (.int .i64 (sz:Int))/\W.cell? ⟨vb,2,none⟩=some (.int .i64 lf)/\W.cell? ⟨vb,3,none⟩=some (.pointer (some ⟨t,0,none⟩)))/\(W.cell? ⟨ob,0,none⟩=some (.pointer (some ⟨F.st,0,none⟩))/\W.cell? ⟨ob,1,none⟩=some (.bool (bgn C f r lf))):=by
 obtain⟨c,Ps,h1,h2,h3,h4,h5⟩:=h
 exact hG.cells h1 h4
theorem GrT.cells(hG:GrK F K0 N C t L Ms n x f r sz vb lf B I)(h:GrT F C L f r sz lf I R ob c1 m hv bv W):(W.cell? ⟨vb,0,none⟩=some (.pointer (some ⟨x,0,none⟩))/\W.cell? ⟨vb,1,none⟩=some (.int .i64 (sz:Int))/\W.cell? ⟨vb,2,none⟩=some (.int .i64 lf)/\W.cell? ⟨vb,3,none⟩=some (.pointer (some ⟨t,0,none⟩)))/\(W.cell? ⟨ob,0,none⟩=some (.pointer (some ⟨F.st,0,none⟩))/\W.cell? ⟨ob,1,none⟩=some (.bool (bgn C f r lf))):=by
 obtain⟨c,Ps,h1,h2,h3,h4,h5⟩:=h
 exact hG.cells h1 h4
theorem GrS.both(hG:GrK F K0 N C t L Ms n x f r sz vb lf B I)(hR:∀A A',R A->Dl2 B A A'->R A')(hRl:∀A,R A->B+1<A.heap.size)(hK0:K0+10000<4611686018427387904)(hr:r<=262144)(hf1:64<=f)(hf2:f+pagesN r<=F.nb)(hpg:∀j,j<indexN r->isPg r j (spgA C L f j)=true)(hc1:c1<=558)(h:GrS F C L f r sz lf I R ob c1 m hv bv W)(hm:m % 60=0)(hmi:m / 60<indexN r) :
  Calls Tryz.prog 146 #[.agg #[.pointer (some ⟨x,0,none⟩),.int .i64 (sz:Int),.int .i64 lf,.pointer (some ⟨t,0,none⟩)],.agg #[.pointer (some ⟨F.st,0,none⟩),.bool (bgn C f r lf)],.int .i64 ((m / 60:Nat):Int)] W fun e W'=>∃hv' bv',e=.returned (.tuple #[hv',bv',.int .i64 0])/\GrT F C L f r sz lf I R ob c1 m hv' bv' W':=by
 obtain⟨c,Ps,h1,h2,h3,h4,h5⟩:=h
 obtain⟨Y,K,o1,o2,o3,o4,o5,o6,o7,o8,o9⟩:=hG c Ps _ W h1
 have hil:=indexN_le hr
 have hgl:=gls_len C L f sz m
 have hpp:indexN r<=pagesN r:=by unfold pagesN;omega
 refine Calls.mono (o1.both (by omega) o3 o4 (sz:Int) lf (bgn C f r lf) (m / 60) hr (by omega) (by omega) (by omega) (hpg _ hmi)) ?_
 rintro e W' ⟨g,cp,g2,cp2,Y',rfl,k1,k2,k3,k4,k5,k6⟩
 have s6:=k6.size
 have hBl:=hRl W h2
 obtain⟨q1,hq1⟩:∃q1,W'.heap[g]?=some q1:=⟨_,Array.getElem?_eq_getElem k3.1.lt⟩
 obtain⟨q2,hq2⟩:∃q2,W'.heap[g2]?=some q2:=⟨_,Array.getElem?_eq_getElem k4.1.lt⟩
 refine⟨_,_,rfl,c+2,(g,q1) :: (g2,q2) :: Ps,?_,hR W W' h2 (Dl2.of_but k6 hBl o7.1 o7.2),by omega,by simp[h4],g,cp,g2,cp2,q1,q2,rfl,rfl,by simp,by simp,fun A hA=>k3.1.keep (hA.trans hq1.symm),fun A hA=>k4.1.keep (hA.trans hq2.symm),k3.2.1,k4.2.1⟩
 refine o9 2 _ (K+2) Y' W' (by omega) k1 k5 k6 (fun p hp=>?_)
 simp only[List.mem_cons]at hp
 rcases hp with rfl | rfl | hp
 ·exact⟨hq1,k3.2.2,by simp only;omega⟩
 ·exact⟨hq2,k4.2.2,by simp only;omega⟩
 ·obtain⟨p1,p2,p3⟩:=o8 p hp
  have hpl:=(Array.getElem?_eq_some_iff.1 p1).1
  exact⟨(k6.block p.1 hpl p2).trans p1,fun q=>p2 (k5 p.1 hpl q),p3⟩
theorem GrT.more(hG:GrK F K0 N C t L Ms n x f r sz vb lf B I)(hR:∀A A',R A->Dl2 B A A'->R A')(hRl:∀A,R A->B+1<A.heap.size)(h:GrT F C L f r sz lf I R ob c1 m hv bv W)(hb:Below W.heap.size W W'):GrT F C L f r sz lf I R ob c1 m hv bv W':=by
 obtain⟨c,Ps,h1,h2,h3,h4,h5⟩:=h
 obtain⟨Y,K,o1,o2,o3,o4,o5,o6,o7,o8,o9⟩:=hG c Ps _ W h1
 have hBl:=hRl W h2
 refine⟨c+0,Ps,o9 0 Ps K Y W' o2 (o1.below hb) (Gr.refl _ _) (But.of_below hb) (fun p hp=>?_),hR W W' h2 (Dl2.of_below hb hBl),by omega,h4,h5⟩
 obtain⟨p1,p2,p3⟩:=o8 p hp
 exact⟨(hb.block p.1 (Array.getElem?_eq_some_iff.1 p1).1).trans p1,p2,p3⟩
theorem GrT.own(hG:GrK F K0 N C t L Ms n x f r sz vb lf B I)(h:GrT F C L f r sz lf I R ob c1 m hv bv W):∃g cp g2 cp2,(hv=.slice (some ⟨g,0,none⟩) 512 cp/\bv=.slice (some ⟨g2,0,none⟩) 512 cp2)/\(Own W g 512 cp (spgA C L f (m / 60))/\Pl.isB (spgA C L f (m / 60)))/\(Own W g2 512 cp2 (cpg (bgn C f r lf) r (m / 60) (C (f+m / 60)))/\Pl.isB (cpg (bgn C f r lf) r (m / 60) (C (f+m / 60)))):=by
 obtain⟨c,Ps,h1,h2,h3,h4,g,cp,g2,cp2,q1,q2,e1,e2,m1,m2,w1,w2,b1,b2⟩:=h
 obtain⟨Y,K,o1,o2,o3,o4,o5,o6,o7,o8,o9⟩:=hG c Ps _ W h1
 exact⟨g,cp,g2,cp2,⟨e1,e2⟩,⟨w1 W (o8 _ m1).1,b1⟩,⟨w2 W (o8 _ m2).1,b2⟩⟩
end
theorem groups_it(F:Cf)(K0 N:Nat)(C:Nat->List Int)(t:Nat)(L:Nat->Option (List Int))(Ms:List (Nat->Option (List Int)))(n x f r sz vb:Nat)(lf:Int)(B:Nat)(I:Nat×List (Nat×Obj)->List Nat->World->Prop)(Ix:Nat×List (Nat×Obj)->Code->List Nat->World->Prop)(w:World)(m0:Nat)(hm0:1<=m0)(hG:GrK F K0 N C t L Ms n x f r sz vb lf B I)(hK0:K0+10000<4611686018427387904)(hsz:1<=sz/\sz<=r)(hr:r<=262144)(hf1:64<=f)(hf2:f+pagesN r<=F.nb)(hpg:∀j,j<indexN r->isPg r j (spgA C L f j)=true) :
  RfItG Fence.wide m0 Tryz.prog 144 #[.pointer (some ⟨vb,0,none⟩)] B 1000 (fun k:Nat=>#[.agg #[.pointer (some ⟨x,0,none⟩),.int .i64 (sz:Int),.int .i64 lf,.pointer (some ⟨t,0,none⟩),.pointer (some ⟨F.st,0,none⟩),.bool (bgn C f r lf),.int .i64 (k:Int),.int .i64 (bkN sz k:Int),.int .i64 (zrI C L f sz k),.bool (abB C L f r lf k)],.int .i64 0]) (fun c xs=>xs=gls C L f sz ((sz-1) / 480+1)/\c.1<=600) (fun c pre=>∃m,m<(sz-1) / 480+1/\pre=gls C L f sz (m+1)/\c.1<=600) (fun k=>k<(sz-1) / 480+1/\0<zrI C L f sz k/\zrI C L f sz k<=480) I Ix w (0,[]):=by
 intro R Rx W hR hRx hRl hRxl hY h0 hr0 hb
 obtain⟨QF,hQF⟩:∃QF:Ending->World->Prop,QF=fun e W'=>(∃v,e=.returned v)/\((∃c0 xs,(xs=gls C L f sz ((sz-1) / 480+1)/\c0.1<=600)/\I c0 xs W'/\R W')\/(∃c0 pre c,(∃m,m<(sz-1) / 480+1/\pre=gls C L f sz (m+1)/\c0.1<=600)/\Ix c0 c pre W'/\Rx c W')):=⟨_,rfl⟩
 have HQF:=hid hQF
 suffices HH:CallsIn Fence.wide m0 Tryz.prog 144 (#[.func (.yield (B+1)) #[] #[]]++#[.pointer (some ⟨vb,0,none⟩)]) W QF by
  rw[hQF]at HH
  exact HH
 clear hQF
 have hpn:=pagesN_le hr
 have hpl:=pagesN_lo (r:=r) (by omega)
 obtain⟨Y,K,o1,o2,o3,o4,o5,o6,o7,o8,o9⟩:=hG 0 [] [] W h0
 have hBl:=hRl W hr0
 have HBG:Hid (Calls Tryz.prog 145 #[.agg #[.pointer (some ⟨x,0,none⟩),.int .i64 (sz:Int),.int .i64 lf,.pointer (some ⟨t,0,none⟩)]] W fun e W1=>e=.returned (.tuple #[.agg #[.pointer (some ⟨F.st,0,none⟩),.bool (bgn C f r lf)],.int .i64 0])/\(W1.alloc (.cells #[.pointer (some ⟨F.st,0,none⟩),.bool (bgn C f r lf)] 164)).cell? ⟨vb,1,none⟩=some (.int .i64 (sz:Int))/\GrS F C L f r sz lf I R W1.heap.size (1+pagesN r) 0 (.slice none 0 0) (.slice none 0 0) (W1.alloc (.cells #[.pointer (some ⟨F.st,0,none⟩),.bool (bgn C f r lf)] 164))):=by
  refine Calls.mono (o1.begun o3 o4 (sz:Int) lf hr (by simp at o2;omega) hf1 hf2 hpl) ?_
  rintro e W1 ⟨K1,Y1,rfl,k1,k2,k3,k4⟩
  have s1:=k4.size
  have bA:Below W1.heap.size W1 (W1.alloc (.cells #[.pointer (some ⟨F.st,0,none⟩),.bool (bgn C f r lf)] 164)):=(Below.refl _ _).alloc (Nat.le_refl _) _
  have hv1:=(bA.block vb (Nat.lt_of_lt_of_le (Array.getElem?_eq_some_iff.1 o5).1 s1)).trans ((k4.block vb (Array.getElem?_eq_some_iff.1 o5).1 o6).trans o5)
  refine⟨rfl,by simp[World.cell?,hv1],0+(1+pagesN r),[(W1.heap.size,.cells #[.pointer (some ⟨F.st,0,none⟩),.bool (bgn C f r lf)] 164 (0,0))],?_,?_,by omega,by simp,fun e=>absurd rfl e⟩
  ·refine o9 (1+pagesN r) _ K1 Y1 _ (by simp at o2 ⊢;omega) (k2.below bA) k3 (k4.comp (But.of_below bA (X:=fun _=>False)) (fun _ _ q=>q.elim)) ?_
   intro p hp
   simp only[List.mem_singleton]at hp
   subst hp
   exact⟨Array.getElem?_push_size,fun q=>by have:=k2.lt _ q;simp at this,by simp only;omega⟩
  ·refine hR W _ hr0 ((Dl2.of_but k4 hBl o7.1 o7.2).trans (Dl2.of_below bA (by omega)))
 have cv:∀i,W.cell? ⟨vb,i,none⟩=#[.pointer (some ⟨x,0,none⟩),.int .i64 (sz:Int),.int .i64 lf,.pointer (some ⟨t,0,none⟩)][i]?:=fun i=>by simp[World.cell?,o5]
 have v0:=cv 0
 have v1:=cv 1
 have v2:=cv 2
 have v3:=cv 3
 simp only[List.getElem?_toArray,List.getElem?_cons_zero,List.getElem?_cons_succ]at v0 v1 v2 v3
 clear cv
 clear o1 o2 o3 o4 o5 o6 o7 o8 o9 h0 hr0
 have HBG2:=hid (fun nn:Nat=>(callsIn_wide (n:=nn)).2 HBG.out)
 obtain⟨q0,hq0⟩:∃q0,q0=(sz-1) / 480:=⟨_,rfl⟩
 have HGO:Hid (∀(nn:Nat) (u:World),CallsIn Fence.wide nn Tryz.prog 89 #[.int .i64 (sz:Int)] u fun e w'=>e=.returned (.int .i64 (q0:Int))/\w'=u):=fun nn u=>by
  rw[hq0]
  exact (callsIn_wide (n:=nn)).2 (groupOf_any sz hsz.1 (by omega) u)
 have hqb:(q0:Int)<=546:=by omega
 have HQ0:=hid hq0
 clear hq0
 refine callsIn_of_wp Tryz.func144 rfl trivial ?_ rfl
 simp only[Tryz.ntmps144,List.size_toArray,List.length_cons,List.length_nil,Nat.reduceAdd,Nat.reduceSub,Array.replicate_succ,Array.replicate_zero,List.push_toArray,List.append_toArray,List.nil_append,List.cons_append]
 gi_wp2_with (refine⟨trivial,?_⟩;gi_at_call 145;refine (HBG2.out _).mono ?_;rintro e W1 ⟨rfl,hv1,hgs⟩;have HGS:=hid hgs;clear hgs)
 obtain⟨W2,hW2⟩:∃W2,W2=W1.alloc (.cells #[.pointer (some ⟨F.st,0,none⟩),.bool (bgn C f r lf)] 164):=⟨_,rfl⟩
 obtain⟨ob,hob⟩:∃ob,ob=W1.heap.size:=⟨_,rfl⟩
 have hgs2:=HGS.out
 rw[<- hW2,<- hob]at hgs2 ⊢
 rw[<- hW2]at hv1
 clear HGS
 have HGS:=hid hgs2
 clear hgs2 hW2 hob v0 v1 v2 v3 HBG HBG2
 gi_wp2_with (refine⟨trivial,?_⟩;gi_at_call 89;refine (HGO.out _ _).mono ?_;rintro e W3 ⟨rfl,hW3⟩;rw[hW3];clear hW3)
 obtain⟨NG,hNG⟩:∃NG,NG=q0+1:=⟨_,rfl⟩
 have hNG3:NG=(sz-1) / 480+1:=by rw[hNG,HQ0.out]
 have HR:=hid hR
 have HRl:=hid hRl
 have hind:∀m,m<NG->m / 60<indexN r:=fun m hm=>by unfold indexN countsN partsN;omega
 have HBO:=hid (fun m hv bv A (h:GrS F C L f r sz lf I R ob (1+pagesN r) m hv bv A) (hm:m % 60=0) (hmn:m<NG)=>h.both hG hR hRl hK0 hr hf1 hf2 hpg (by omega) hm (hind m hmn))
 have HYY:=hid hY
 have hNG2:NG<=547:=by omega
 have hszb:sz<=262144:=by omega
 have HS0:=hid hsz
 have HNG3:=hid hNG3
 clear hY hR hRl hpg hind hv1 HGO hNG3
 gi_loopw [22,4,5,6] (fun iv ev hv bv wr=>∃m:Nat,m<=NG/\iv=.int .i64 (m:Int)/\ev=.int .i64 0/\GrS F C L f r sz lf I R ob (1+pagesN r) m hv bv wr) (fun iv _ _ _ _=>NG-(intOf iv).toNat)
 case atStart=>exact⟨0,Nat.zero_le _,rfl,rfl,HGS.out⟩
 case round=>
  clear HGS
  obtain⟨m,hm,rfl,rfl,hS⟩:=hrel
  by_cases hmn:m<NG
  ·have hmn':(m:Int)<(q0:Int)+1:=by omega
   obtain⟨i,hi⟩:∃i,i=m % 60:=⟨_,rfl⟩
   have HI2:Hid ((m:Int) % 60=(i:Int)):=by show (m:Int) % 60=(i:Int);omega
   obtain⟨bkv,hbkv⟩:∃bkv,bkv=bkN sz m:=⟨_,rfl⟩
   have hbk2:min ((sz:Int)-(m:Int) * 480) 480=(bkv:Int):=by
    have a1:=HNG3.out
    have a2:=HS0.out
    rw[hbkv]
    unfold bkN
    omega
   obtain⟨tkv,htkv⟩:∃tkv,tkv=tknZ (spgA C L f (m / 60)) i:=⟨_,rfl⟩
   obtain⟨tr1,htr1⟩:∃tr1,tr1=trnZ (spgA C L f (m / 60)) i:=⟨_,rfl⟩
   obtain⟨tr2,htr2⟩:∃tr2,tr2=trnZ (cpg (bgn C f r lf) r (m / 60) (C (f+m / 60))) i:=⟨_,rfl⟩
   obtain⟨zr,hzr⟩:∃zr,zr=(bkv:Int)-tkv:=⟨_,rfl⟩
   have HZR:Hid (zrI C L f sz m=zr):=by
    show zrI C L f sz m=zr
    rw[hzr,hbkv,htkv,hi]
    rfl
   have HAB:Hid (abB C L f r lf m=(tr1 == tr2)):=by
    show abB C L f r lf m=(tr1 == tr2)
    rw[htr1,htr2,hi]
    rfl
   have HI:=hid hi
   have HTKV:=hid htkv
   have HTR1:=hid htr1
   have HTR2:=hid htr2
   have hzr2:(bkv:Int)-tkv=zr:=hzr.symm
   have hbb:(bkv:Int)<=480:=by rw[hbkv];unfold bkN;omega
   have hi60:i<60:=by omega
   have HBKV:=hid hbkv
   clear hi htkv htr1 htr2 hzr hbkv
   have HYM:Hid (∀hv bv A',GrT F C L f r sz lf I R ob (1+pagesN r) m hv bv A'->0<zr->zr<=480->∃fn tmps assign body,(Instr.yield (B+1) #[.agg #[.pointer (some ⟨x,0,none⟩),.int .i64 (sz:Int),.int .i64 lf,.pointer (some ⟨t,0,none⟩),.pointer (some ⟨F.st,0,none⟩),.bool (bgn C f r lf),.int .i64 (m:Int),.int .i64 (bkv:Int),.int .i64 zr,.bool (tr1 == tr2)],.int .i64 0]).run Tryz.prog A'=.ok (.round (B+1) fn tmps assign body) A'/\RoundIn Fence.wide (m0-1) Tryz.prog (B+1) fn tmps assign body A' fun e W'=>(e=.returned (.bool true)/\GrS F C L f r sz lf I R ob (1+pagesN r) (m+1) hv bv W')\/(e=.returned (.bool false)/\∀v,QF (.returned v) W')):=fun hv bv A' hT hz hz2=>by
    obtain⟨c,Ps,h1,h2,h3,h4,h5⟩:=hT
    have hgl:=gls_len C L f sz m
    obtain⟨fn,tmps,assign,body,hy,hrd⟩:=HYY.out (c,Ps) (gls C L f sz m) m A' ⟨by rw[<- HNG3.out];exact hmn,by rw[HZR.out];exact hz,by rw[HZR.out];exact hz2⟩ h1 h2 (by omega)
    have hgs:gls C L f sz (m+1)=gls C L f sz m++[m]:=by rw[gls_succ,if_pos (by rw[HZR.out];exact hz)]
    refine⟨fn,tmps,assign,body,?_,hrd.mono ?_⟩
    ·rw[HBKV.out,<- HAB.out,<- HZR.out]
     exact hy
    ·rintro e W' (⟨rfl,q1,q2⟩ | ⟨rfl,cd,q1,q2⟩)
     ·refine .inl ⟨rfl,c,Ps,by rw[hgs];exact q1,q2,by omega,h4,fun _=>?_⟩
      rename_i hmm
      rw[show (m+1) / 60=m / 60 by omega]
      exact h5
     ·refine .inr ⟨rfl,fun v=>?_⟩
      rw[HQF.out]
      exact⟨⟨v,rfl⟩,.inr ⟨(c,Ps),_,cd,⟨m,by rw[<- HNG3.out];exact hmn,hgs.symm,by simp only;omega⟩,q1,q2⟩⟩
   by_cases hi0:i=0
   ·have hi0':(m:Int) % 60=0:=by rw[HI2.out,hi0];rfl
    obtain⟨⟨v0,v1,v2,v3⟩,p0',p1'⟩:=hS.cells hG
    have HBW:=HBO.out m _ _ wr hS (by rw[<- HI.out];exact hi0) hmn
    have e60:((m / 60:Nat):Int)=(m:Int) / 60:=by omega
    rw[e60]at HBW
    have HBX:=hid (fun nn:Nat=>(callsIn_wide (n:=nn)).2 HBW)
    clear HBW hS e60
    gi_wp2_with (refine⟨trivial,?_⟩;gi_at_call 146;refine (HBX.out _).mono ?_;rintro e A ⟨hv',bv',rfl,T⟩;have TT:=hid T;clear T v0 v1 v2 v3 p0' p1' HBX;obtain⟨g,cp,g2,cp2,⟨rfl,rfl⟩,OW⟩:=TT.out.own hG;have HOW:=hid OW;clear OW;obtain⟨⟨u0,u1,u2,u3⟩,p0,p1⟩:=TT.out.cells hG)
    obtain⟨⟨w1,b1⟩,⟨w2,b2⟩⟩:=HOW.out
    have HTK:Hid (∀nn:Nat,CallsIn Fence.wide nn Tryz.prog 147 #[.slice (some ⟨g,0,none⟩) 512 cp,.int .i64 0] A fun e w'=>e=.returned (.int .i64 tkv)/\w'=A):=fun nn=>by
     rw[HTKV.out,hi0]
     exact (callsIn_wide (n:=nn)).2 (takenAt_any w1 b1 0 (by omega))
    have HT:Hid (∀(nn:Nat) A',Below A.heap.size A A'->(CallsIn Fence.wide nn Tryz.prog 148 #[.slice (some ⟨g,0,none⟩) 512 cp,.int .i64 0] A' fun e w'=>e=.returned (.int .i64 tr1)/\w'=A')/\(CallsIn Fence.wide nn Tryz.prog 148 #[.slice (some ⟨g2,0,none⟩) 512 cp2,.int .i64 0] A' fun e w'=>e=.returned (.int .i64 tr2)/\w'=A')):=fun nn A' bb=>by
     rw[HTR1.out,HTR2.out,hi0]
     exact⟨(callsIn_wide (n:=nn)).2 (turnsAt_any (w1.keep (bb.block g w1.lt)) b1 0 (by omega)),(callsIn_wide (n:=nn)).2 (turnsAt_any (w2.keep (bb.block g2 w2.lt)) b2 0 (by omega))⟩
    have tb:=num_take b1 (32+8 * 0) 2 (by omega)
    have tb0:0<=tkv:=by rw[HTKV.out,hi0];exact tb.1
    have tb1:tkv<1099511627776:=by rw[HTKV.out,hi0];exact tb.2
    clear w1 b1 w2 b2 tb
    by_cases hz:0<zr
    ·have hzn:¬zr<=0:=by omega
     have hBB:∀o,Below A.heap.size A (A.alloc o):=fun o=>(Below.refl _ _).alloc (Nat.le_refl _) _
     obtain⟨fn,tmps,assign,body,hy,hRd⟩:=HYM.out _ _ _ (TT.out.more hG HR.out HRl.out (hBB (.cells #[.pointer (some ⟨x,0,none⟩),.int .i64 (sz:Int),.int .i64 lf,.pointer (some ⟨t,0,none⟩),.pointer (some ⟨F.st,0,none⟩),.bool (bgn C f r lf),.int .i64 (m:Int),.int .i64 (bkv:Int),.int .i64 zr,.bool (tr1 == tr2)] 166))) hz (by omega)
     have HRD:=hid hRd
     have HT1:=hid (fun (nn:Nat) o=>(HT.out nn _ (hBB o)).1)
     have HT2:=hid (fun (nn:Nat) o=>(HT.out nn _ (hBB o)).2)
     clear hBB HT hRd
     gi_wp2_with (refine⟨trivial,?_⟩;gi_at_call 147;with_reducible refine (HTK.out _).mono ?_;rintro e W4 ⟨rfl,hW4⟩;rw[hW4];clear hW4 HTK)
     gi_wp2_with (refine⟨trivial,?_⟩;gi_at_call 148;with_reducible refine (HT1.out _ _).mono ?_;rintro e W4 ⟨rfl,hW4⟩;rw[hW4];clear hW4)
     gi_wp2_with (refine⟨trivial,?_⟩;gi_at_call 148;with_reducible refine (HT2.out _ _).mono ?_;rintro e W4 ⟨rfl,hW4⟩;rw[hW4];clear hW4)
     refine HRD.out.mono ?_
     rintro e W3 (⟨rfl,q1⟩ | ⟨rfl,q1⟩)
     ·have Q1:=hid q1
      clear q1 hy HRD
      gi_wp2
      go_roundw
      case rel=>exact⟨m+1,by omega,by go_num,rfl,Q1.out⟩
      case measure=>simp[intOf];omega
     ·have Q1:=hid q1
      clear q1 hy HRD
      gi_wp2
      refine bodyPost_ret (results_none rfl _ _ _) rfl ?_
      exact Q1.out _
    ·have hzn:zr<=0:=by omega
     have NX:=hid (TT.out.next (by rw[HZR.out];exact hz))
     gi_wp2_with (refine⟨trivial,?_⟩;gi_at_call 147;with_reducible refine (HTK.out _).mono ?_;rintro e W4 ⟨rfl,hW4⟩;rw[hW4];clear hW4 HTK)
     go_roundw
     case rel=>exact⟨m+1,by omega,by go_num,rfl,NX.out⟩
     case measure=>simp[intOf];omega
   ·have T:=hS.grt (by rw[<- HI.out];exact hi0)
    obtain⟨A,hA⟩:∃A,A=wr:=⟨_,rfl⟩
    rw[<- hA]at T ⊢
    have hi0':¬(m:Int) % 60=0:=by rw[HI2.out];omega
    clear hS hA
    obtain⟨g,cp,g2,cp2,⟨rfl,rfl⟩,⟨w1,b1⟩,⟨w2,b2⟩⟩:=T.own hG
    obtain⟨⟨u0,u1,u2,u3⟩,p0,p1⟩:=T.cells hG
    have HTK:Hid (∀nn:Nat,CallsIn Fence.wide nn Tryz.prog 147 #[.slice (some ⟨g,0,none⟩) 512 cp,.int .i64 ((m:Int) % 60)] A fun e w'=>e=.returned (.int .i64 tkv)/\w'=A):=fun nn=>by
     rw[HTKV.out,HI2.out]
     exact (callsIn_wide (n:=nn)).2 (takenAt_any w1 b1 i (by omega))
    have HT:Hid (∀(nn:Nat) A',Below A.heap.size A A'->(CallsIn Fence.wide nn Tryz.prog 148 #[.slice (some ⟨g,0,none⟩) 512 cp,.int .i64 ((m:Int) % 60)] A' fun e w'=>e=.returned (.int .i64 tr1)/\w'=A')/\(CallsIn Fence.wide nn Tryz.prog 148 #[.slice (some ⟨g2,0,none⟩) 512 cp2,.int .i64 ((m:Int) % 60)] A' fun e w'=>e=.returned (.int .i64 tr2)/\w'=A')):=fun nn A' bb=>by
     rw[HTR1.out,HTR2.out,HI2.out]
     exact⟨(callsIn_wide (n:=nn)).2 (turnsAt_any (w1.keep (bb.block g w1.lt)) b1 i (by omega)),(callsIn_wide (n:=nn)).2 (turnsAt_any (w2.keep (bb.block g2 w2.lt)) b2 i (by omega))⟩
    have tb:=num_take b1 (32+8 * i) 2 (by omega)
    have tb0:0<=tkv:=by rw[HTKV.out];exact tb.1
    have tb1:tkv<1099511627776:=by rw[HTKV.out];exact tb.2
    have TT:=hid T
    clear T w1 b1 w2 b2 tb
    by_cases hz:0<zr
    ·have hzn:¬zr<=0:=by omega
     have hBB:∀o,Below A.heap.size A (A.alloc o):=fun o=>(Below.refl _ _).alloc (Nat.le_refl _) _
     obtain⟨fn,tmps,assign,body,hy,hRd⟩:=HYM.out _ _ _ (TT.out.more hG HR.out HRl.out (hBB (.cells #[.pointer (some ⟨x,0,none⟩),.int .i64 (sz:Int),.int .i64 lf,.pointer (some ⟨t,0,none⟩),.pointer (some ⟨F.st,0,none⟩),.bool (bgn C f r lf),.int .i64 (m:Int),.int .i64 (bkv:Int),.int .i64 zr,.bool (tr1 == tr2)] 166))) hz (by omega)
     have HRD:=hid hRd
     have HT1:=hid (fun (nn:Nat) o=>(HT.out nn _ (hBB o)).1)
     have HT2:=hid (fun (nn:Nat) o=>(HT.out nn _ (hBB o)).2)
     clear hBB HT hRd
     gi_wp2_with (refine⟨trivial,?_⟩;gi_at_call 147;with_reducible refine (HTK.out _).mono ?_;rintro e W4 ⟨rfl,hW4⟩;rw[hW4];clear hW4 HTK)
     gi_wp2_with (refine⟨trivial,?_⟩;gi_at_call 148;with_reducible refine (HT1.out _ _).mono ?_;rintro e W4 ⟨rfl,hW4⟩;rw[hW4];clear hW4)
     gi_wp2_with (refine⟨trivial,?_⟩;gi_at_call 148;with_reducible refine (HT2.out _ _).mono ?_;rintro e W4 ⟨rfl,hW4⟩;rw[hW4];clear hW4)
     refine HRD.out.mono ?_
     rintro e W3 (⟨rfl,q1⟩ | ⟨rfl,q1⟩)
     ·have Q1:=hid q1
      clear q1 hy HRD
      gi_wp2
      go_roundw
      case rel=>exact⟨m+1,by omega,by go_num,rfl,Q1.out⟩
      case measure=>simp[intOf];omega
     ·have Q1:=hid q1
      clear q1 hy HRD
      gi_wp2
      refine bodyPost_ret (results_none rfl _ _ _) rfl ?_
      exact Q1.out _
    ·have hzn:zr<=0:=by omega
     have NX:=hid (TT.out.next (by rw[HZR.out];exact hz))
     gi_wp2_with (refine⟨trivial,?_⟩;gi_at_call 147;with_reducible refine (HTK.out _).mono ?_;rintro e W4 ⟨rfl,hW4⟩;rw[hW4];clear hW4 HTK)
     go_roundw
     case rel=>exact⟨m+1,by omega,by go_num,rfl,NX.out⟩
     case measure=>simp[intOf];omega
  ·have hmn':¬(m:Int)<(q0:Int)+1:=by omega
   obtain rfl:m=NG:=by omega
   have HS:=hid hS
   clear hS
   gi_wp2
   go_end0
   obtain⟨c,Ps,h1,h2,h3,h4,h5⟩:=HS.out
   rw[HQF.out]
   exact⟨⟨_,rfl⟩,.inl ⟨(c,Ps),_,⟨by rw[HNG3.out],by simp only;omega⟩,h1,h2⟩⟩
open Go.RowKit Go.Deep
attribute [local go_sem] Oper.semAt_some
def GuI (Y:Nat->Prop) (w:World) (B:Nat) (F:Cf) (K0 N:Nat) (C:Nat->List Int) (t:Nat) (L:Nat->Option (List Int)) (Ms:List (Nat->Option (List Int))) (n:Nat) (c:Nat×List (Nat×Obj)) (len:Nat) (Qs:List (Nat×Obj)) (W:World):Prop :=
 ∃Y' K',Opn Y' W F K' N C t L Ms n/\(K'<=K0+c.1+2 * len/\c.1<=600)/\(∀q,q<B+2->Y' q->Y q)/\But Y w W/\B+2<=W.heap.size/\(∀p∈c.2,W.heap[p.1]?=some p.2/\¬Y' p.1/\B+2<=p.1)/\(∀p∈Qs,W.heap[p.1]?=some p.2/\¬Y' p.1/\p.1<B)
section
variable {Y:Nat->Prop} {w:World} {B:Nat} {F:Cf} {K0 N:Nat} {C:Nat->List Int} {t:Nat} {L:Nat->Option (List Int)} {Ms:List (Nat->Option (List Int))} {n:Nat} {c:Nat×List (Nat×Obj)} {len:Nat} {Qs:List (Nat×Obj)} {W:World}
theorem GuI.to(hw:∀q,Y q->q<w.heap.size)(hB:w.heap.size<=B)(h:GuI Y w B F K0 N C t L Ms n c len Qs W):∃Y' K',Opn Y' W F K' N C t L Ms n/\(K'<=K0+c.1+2 * len/\c.1<=600)/\(∀p∈c.2,W.heap[p.1]?=some p.2/\¬Y' p.1/\B+2<=p.1)/\(∀p∈Qs,W.heap[p.1]?=some p.2/\¬Y' p.1/\p.1<B)/\(¬Y' B/\¬Y' (B+1))/\B+2<=W.heap.size /\
  ∀c' len' Qs' K'' Y'' W',(K''<=K0+c'.1+2 * len'/\c'.1<=600)->Opn Y'' W' F K'' N C t L Ms n->Gr Y' Y'' W->But (fun q=>Y' q\/w.heap.size<=q) W W'->(∀p∈c'.2,W'.heap[p.1]?=some p.2/\¬Y'' p.1/\B+2<=p.1)->(∀p∈Qs',W'.heap[p.1]?=some p.2/\¬Y'' p.1/\p.1<B)->GuI Y w B F K0 N C t L Ms n c' len' Qs' W':=by
 obtain⟨Y',K',h1,h2,h3,h4,h5,h6,h7⟩:=h
 refine⟨Y',K',h1,h2,h6,h7,⟨fun q=>?_,fun q=>?_⟩,h5,?_⟩
 ·have:=hw _ (h3 B (by omega) q)
  omega
 ·have:=hw _ (h3 (B+1) (by omega) q)
  omega
 ·intro c' len' Qs' K'' Y'' W' k1 k2 k3 k4 k5 k6
  refine⟨Y'',K'',k2,k1,fun q hq e=>h3 q hq (k3 q (by omega) e),h4.comp k4 (fun q hq e=>?_),Nat.le_trans h5 k4.size,k5,k6⟩
  rcases e with e | e
  ·exact h3 q (by omega) e
  ·omega
theorem GuI.keep(hw:∀q,Y q->q<w.heap.size)(hB:w.heap.size<=B)(h:GuI Y w B F K0 N C t L Ms n c len Qs W)(hb:But X W W')(hX:∀q,X q->q=B\/q=B+1):GuI Y w B F K0 N C t L Ms n c len Qs W':=by
 obtain⟨Y',K',o1,o2,o3,o4,o5,o6,o7⟩:=h.to hw hB
 refine o7 c len Qs K' Y' W' o2 (o1.keep hb (fun q _ e1 e2=>?_)) (Gr.refl _ _) (hb.mono (fun q _ e=>.inr ?_)) (fun p hp=>?_) (fun p hp=>?_)
 ·rcases hX q e1 with rfl | rfl
  ·exact o5.1 e2
  ·exact o5.2 e2
 ·rcases hX q e with rfl | rfl <;> omega
 ·obtain⟨p1,p2,p3⟩:=o3 p hp
  exact⟨(hb.block p.1 (Array.getElem?_eq_some_iff.1 p1).1 (fun e=>by rcases hX _ e with e | e <;> omega)).trans p1,p2,p3⟩
 ·obtain⟨p1,p2,p3⟩:=o4 p hp
  exact⟨(hb.block p.1 (Array.getElem?_eq_some_iff.1 p1).1 (fun e=>by rcases hX _ e with e | e <;> omega)).trans p1,p2,p3⟩
theorem GuI.set(hw:∀q,Y q->q<w.heap.size)(hB:w.heap.size<=B)(h:GuI Y w B F K0 N C t L Ms n c len Qs W){o:Obj}{Qs':List (Nat×Obj)}(hb:But (fun q=>q=b) W W')(hb1:w.heap.size<=b/\b<B)(hbY:∃o',(b,o')∈Qs)(ho:W'.heap[b]?=some o)(hq:∀p∈Qs',p=(b,o)\/(p∈Qs/\p.1≠b)):GuI Y w B F K0 N C t L Ms n c len Qs' W':=by
 obtain⟨Y',K',o1,o2,o3,o4,o5,o6,o7⟩:=h.to hw hB
 obtain⟨o',ho'⟩:=hbY
 have hn:¬Y' b:=(o4 _ ho').2.1
 refine o7 c len Qs' K' Y' W' o2 (o1.keep hb (fun q _ e1 e2=>by subst e1;exact hn e2)) (Gr.refl _ _) (hb.mono (fun q _ e=>.inr (by omega))) (fun p hp=>?_) (fun p hp=>?_)
 ·obtain⟨p1,p2,p3⟩:=o3 p hp
  exact⟨(hb.block p.1 (Array.getElem?_eq_some_iff.1 p1).1 (fun e=>by omega)).trans p1,p2,p3⟩
 ·rcases hq p hp with rfl | ⟨hp,hne⟩
  ·exact⟨ho,hn,hb1.2⟩
  ·obtain⟨p1,p2,p3⟩:=o4 p hp
   exact⟨(hb.block p.1 (Array.getElem?_eq_some_iff.1 p1).1 (fun e=>hne e)).trans p1,p2,p3⟩
theorem GuI.call(hw:∀q,Y q->q<w.heap.size)(hB:w.heap.size<=B)(h:GuI Y w B F K0 N C t L Ms n c len Qs W):∃Y' K',Opn Y' W F K' N C t L Ms n/\(K'<=K0+c.1+2 * len/\c.1<=600)/\(∀p∈Qs,W.heap[p.1]?=some p.2/\¬Y' p.1/\p.1<B)/\(∀q,Y' q->w.heap.size<=q->B+2<=q) /\
  ∀K'' Y'' W',K''<=K'+2->Opn Y'' W' F K'' N C t L Ms n->Gr Y' Y'' W->But Y' W W'->GuI Y w B F K0 N C t L Ms n c (len+1) Qs W'/\Dl2 B W W':=by
 have h':=h
 obtain⟨Y0,K1,g1,g2,g3,g4,g5,g6,g7⟩:=h'
 obtain⟨Y',K',o1,o2,o3,o4,o5,o6,o7⟩:=h.to hw hB
 obtain⟨Y',K',h1,h2,h3,h4,h5,h6,h7⟩:=h
 have nB:∀q,Y' q->w.heap.size<=q->B+2<=q:=fun q e1 e2=>by
  apply Nat.le_of_not_lt
  intro hq
  have:=hw q (h3 q (by omega) e1)
  omega
 refine⟨Y',K',h1,h2,h7,nB,fun K'' Y'' W' k1 k2 k3 k4=>⟨⟨Y'',K'',k2,by omega,fun q hq e=>h3 q hq (k3 q (by omega) e),h4.comp k4 (fun q hq e=>h3 q (by omega) e),Nat.le_trans h5 k4.size,fun p hp=>?_,fun p hp=>?_⟩,Dl2.of_but k4 (by omega) (fun e=>?_) (fun e=>?_)⟩⟩
 ·obtain⟨p1,p2,p3⟩:=h6 p hp
  have hl:=(Array.getElem?_eq_some_iff.1 p1).1
  exact⟨(k4.block p.1 hl p2).trans p1,fun e=>p2 (k3 p.1 hl e),p3⟩
 ·obtain⟨p1,p2,p3⟩:=h7 p hp
  have hl:=(Array.getElem?_eq_some_iff.1 p1).1
  exact⟨(k4.block p.1 hl p2).trans p1,fun e=>p2 (k3 p.1 hl e),p3⟩
 ·have:=nB B e hB
  omega
 ·have:=nB (B+1) e (by omega)
  omega
theorem GuI.grk(hw:∀q,Y q->q<w.heap.size)(hB:w.heap.size<=B){vb:Nat}{ox:Obj}(QL:List Nat->List (Nat×Obj))(J:List Nat->Prop)(hv:∀pre,(vb,.cells #[.pointer (some ⟨x,0,none⟩),.int .i64 (sz:Int),.int .i64 lf,.pointer (some ⟨t,0,none⟩)] 103 (0,0))∈QL pre)(hx:∀pre,(x,ox)∈QL pre)(hs:∀V:World,V.heap[x]?=some ox->Spb V x f r F.st):GrK F K0 N C t L Ms n x f r sz vb lf B (fun c pre W=>GuI Y w B F K0 N C t L Ms n c pre.length (QL pre) W/\J pre):=by
 rintro c Ps pre W ⟨h,hj⟩
 obtain⟨Y',K',o1,o2,o3,o4,o5,o6,o7⟩:=h.to hw hB
 obtain⟨v1,v2,v3⟩:=o4 _ (hv pre)
 obtain⟨x1,x2,x3⟩:=o4 _ (hx pre)
 refine⟨Y',K',o1,o2,hs W x1,x2,v1,v2,o5,o3,fun d Ps' K'' Y'' W' k1 k2 k3 k4 k5=>?_⟩
 refine⟨o7 (c+d,Ps') pre.length (QL pre) K'' Y'' W' k1 k2 k3 (k4.mono (fun q _ e=>.inl e)) k5 (fun p hp=>?_),hj⟩
 obtain⟨p1,p2,p3⟩:=o4 p hp
 have hl:=(Array.getElem?_eq_some_iff.1 p1).1
 exact⟨(k4.block p.1 hl p2).trans p1,fun e=>p2 (k3 p.1 hl e),p3⟩
end
theorem Spb.obj{s:Nat}(h:Spb w x f r s):∃ox,w.heap[x]?=some ox/\∀V:World,V.heap[x]?=some ox->Spb V x f r s:=by
 refine⟨_,Array.getElem?_eq_getElem h.lt,fun V hV=>h.keep (hV.trans (Array.getElem?_eq_getElem h.lt).symm)⟩
theorem loadv_one{d:TypeDesc}(hu:P.underlying t=some d)(hd:(match d with | .struct _ | .array _ _=>true | _=>false)=false)(hc:w.cell? ⟨b,0,none⟩=some v):(loadVar t ⟨b,0,none⟩).run P w=.ok v w:=by
 have hr:=fun W:World=>run_underlying hu W
 simp only[loadVar,isAgg,Sem.run_bind,hr,Result.andThen]
 cases d <;> simp_all
theorem results_cells2{p q:Tmp}{t1 t2:TypeId}(h:fn.results=#[.cell p t1,.cell q t2])(tmps:Array Value)(w:World){b1 b2:Nat}(hp:tmps.getD p undef=.pointer (some ⟨b1,0,none⟩))(hq:tmps.getD q undef=.pointer (some ⟨b2,0,none⟩))(h1:(loadVar t1 ⟨b1,0,none⟩).run P w=.ok v1 w)(h2:(loadVar t2 ⟨b2,0,none⟩).run P w=.ok v2 w):(results fn tmps).run P w=.ok (.tuple #[v1,v2]) w:=by
 have hp':=hp
 have hq':=hq
 simp only[Array.getD_eq_getD_getElem?]at hp' hq'
 simp only[results,h]
 simp[Sem.run_bind,hp',hq',asAddr,h1,h2]
theorem allocs4(w:World)(o0 o1 o2 o3:Obj):(((((w.alloc o0).alloc o1).alloc o2).alloc o3).heap[w.heap.size]?=some o0/\((((w.alloc o0).alloc o1).alloc o2).alloc o3).heap[w.heap.size+1]?=some o1)/\((((w.alloc o0).alloc o1).alloc o2).alloc o3).heap[w.heap.size+2]?=some o2/\((((w.alloc o0).alloc o1).alloc o2).alloc o3).heap[w.heap.size+3]?=some o3:=by
 have a1:=World.alloc_heap_new w o0
 have a2:=World.alloc_heap_new (w.alloc o0) o1
 have a3:=World.alloc_heap_new ((w.alloc o0).alloc o1) o2
 have a4:=World.alloc_heap_new (((w.alloc o0).alloc o1).alloc o2) o3
 simp only[World.size_alloc]at a2 a3 a4
 have k:∀(W:World) o k,k<W.heap.size->(W.alloc o).heap[k]?=W.heap[k]?:=fun W o k hk=>Below.heap_alloc W o k hk
 refine⟨⟨?_,?_⟩,?_,a4⟩
 ·rw[k _ _ _ (by simp only[World.size_alloc];omega),k _ _ _ (by simp only[World.size_alloc];omega),k _ _ _ (by simp only[World.size_alloc];omega)]
  exact a1
 ·rw[k _ _ _ (by simp only[World.size_alloc];omega),k _ _ _ (by simp only[World.size_alloc];omega)]
  exact a2
 ·rw[k _ _ _ (by simp only[World.size_alloc];omega)]
  exact a3
theorem groups_any(v:Array Value)(w:World):Calls Tryz.prog 96 #[.agg v] w fun e w'=>e=.returned (.func (.func 144) #[] #[.pointer (some ⟨w.heap.size,0,none⟩)])/\w'=w.alloc (.cells v 103):=by
 go_enter Tryz.func96,Tryz.ntmps96
 go_wp2
 exact bodyPost_ret (results_tmp rfl _ _ _) rfl ⟨rfl,rfl⟩
end Go.Proofs.YtlefjidbpjkhlaaGreat
