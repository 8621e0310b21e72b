import Derived.Test.YtlefjidbpjkhlaaGreatK49
import Derived.Test.YtlefjidbpjkhlaaGreatK11
import Derived.Deep.DeepCutAuto
set_option maxRecDepth 100000
set_option maxHeartbeats 16000000
namespace Go.Proofs.YtlefjidbpjkhlaaGreat
variable {w w':World}
variable {B b e i n o:Nat}
variable {v:Value}
variable {fn:Func}
variable {ty:TypeId}
variable {xs:List Value}
open Go.RowKit Go.Deep
theorem cell_al(o:Obj)(h:w.cell? ⟨b,i,none⟩=some v):(w.alloc o).cell? ⟨b,i,none⟩=some v:=by
 have hl:b<w.heap.size:=World.block_lt_of_cell? w ⟨b,i,none⟩ h
 exact ((((Below.refl w.heap.size w).alloc (Nat.le_refl _) o)).cell (p:=⟨b,i,none⟩) hl).trans h
theorem results_tmp3{t u v:Tmp}(h:fn.results=#[.tmp t,.tmp u,.tmp v])(tmps:Array Value)(P:Program)(w:World) :
  (results fn tmps).run P w=.ok (.tuple #[tmps.getD t undef,tmps.getD u undef,tmps.getD v undef]) w:=by
 simp[results,h]
theorem set2{g:Nat}{a0 b0:Value}(h:w.heap[g]?=some (.cells #[a0,b0] ty (0,0)))(a b:Value):((w.setCell ⟨g,0,none⟩ a).setCell ⟨g,1,none⟩ b).heap[g]?=some (.cells #[a,b] ty (0,0)):=by
 simp only[World.setCell,Array.getElem?_modify]
 rw[h]
 simp
theorem own_apart{B' s n':Nat}{v':Value}{xs':List Value}(h:w.ownsRow B e s v n xs)(h':w'.ownsRow B' e s v' n' xs')(hn:0<n'/\w.heap.size<=B')(q:v.ownBlock=v'.ownBlock):False:=by
 rcases h'.2 with ⟨_,e⟩ | ⟨g',c',cur,rfl,hg,_⟩
 ·omega
 ·have e1:(Value.slice (some ⟨g',0,none⟩) n' c').ownBlock=some g':=rfl
  rw[e1]at q
  have:=(World.ownsRow.lt h g' q).2
  omega
theorem blk_set{cs:Array Value}(h:w.heap[o]?=some (.cells cs ty (0,0)))(i:Nat)(v:Value):(w.setCell ⟨o,i,none⟩ v).heap[o]?=some (.cells (cs.setIfInBounds i v) ty (0,0)):=by
 simp only[World.setCell,Array.getElem?_modify]
 rw[h]
 simp
theorem begun_walk6(a b c d:Int)(w:World)(PO:Ending->World->Prop)(HW:∀(r0 r1 c0 c1:Nat) (D:World),(1<=r0/\r0<=2800)->(1<=r1/\r1<=2800)->(1<=c0/\c0<=r0)->(1<=c1/\c1<=r1)->Below w.heap.size w D->Calls Tryz.prog 8 #[.agg #[.int .i64 (r0:Int),.int .i64 (r1:Int)],.agg #[.int .i64 (c0:Int),.int .i64 (c1:Int)]] D fun e wa=>∃o,e=.returned (.pointer (some ⟨o,0,none⟩))/\Below D.heap.size D wa/\∀kb tv0 tv1 w',kb=wa.heap.size->Below wa.heap.size wa w'->w'.heap[kb]?=some (.cells #[tv0,.int .i64 (c0:Int),tv1,.int .i64 (c1:Int),.slice none 0 0,.int .i64 0,.slice none 0 0,.int .i64 0,.slice none 0 0] 112 (0,0))->(w'.ownsRow (kb+1) 3 1 tv0 r0 (List.replicate r0 (.int .i64 0))/\w'.ownsRow (kb+1) 3 1 tv1 r1 (List.replicate r1 (.int .i64 0))/\tv0.ownBlock≠tv1.ownBlock)->PO (.returned (.tuple #[.pointer (some ⟨o,0,none⟩),.pointer (some ⟨kb,0,none⟩),.bool true])) w') :
  Calls Tryz.prog 20 #[.agg #[.int .i64 a,.int .i64 b],.agg #[.int .i64 c,.int .i64 d]] w PO:=by
 obtain⟨r0,hr0⟩:∃r0,r0=inN 1 2800 a:=⟨_,rfl⟩
 obtain⟨r1,hr1⟩:∃r1,r1=inN 1 2800 b:=⟨_,rfl⟩
 have W0:Hid (∀u,Calls Tryz.prog 7 #[.int .i64 a,.int .i64 1,.int .i64 2800] u fun q w'=>q=.returned (.int .i64 (r0:Int))/\w'=u):=fun u=>by rw[hr0];exact within_any a 1 2800 (by decide) (by decide) u
 have W1:Hid (∀u,Calls Tryz.prog 7 #[.int .i64 b,.int .i64 1,.int .i64 2800] u fun q w'=>q=.returned (.int .i64 (r1:Int))/\w'=u):=fun u=>by rw[hr1];exact within_any b 1 2800 (by decide) (by decide) u
 have a1:=inN_lo 1 2800 a
 have a2:=inN_hi (lo:=1) (hi:=2800) a (by decide)
 have a3:=inN_lo 1 2800 b
 have a4:=inN_hi (lo:=1) (hi:=2800) b (by decide)
 rw[<- hr0]at a1 a2
 rw[<- hr1]at a3 a4
 obtain⟨c0,hc0⟩:∃c0,c0=inN 1 r0 c:=⟨_,rfl⟩
 obtain⟨c1,hc1⟩:∃c1,c1=inN 1 r1 d:=⟨_,rfl⟩
 have W2:Hid (∀u,Calls Tryz.prog 7 #[.int .i64 c,.int .i64 1,.int .i64 (r0:Int)] u fun q w'=>q=.returned (.int .i64 (c0:Int))/\w'=u):=fun u=>by rw[hc0];exact within_any c 1 r0 a1 (by omega) u
 have W3:Hid (∀u,Calls Tryz.prog 7 #[.int .i64 d,.int .i64 1,.int .i64 (r1:Int)] u fun q w'=>q=.returned (.int .i64 (c1:Int))/\w'=u):=fun u=>by rw[hc1];exact within_any d 1 r1 a3 (by omega) u
 have d1:=inN_lo 1 r0 c
 have d2:=inN_hi (lo:=1) (hi:=r0) c a1
 have d3:=inN_lo 1 r1 d
 have d4:=inN_hi (lo:=1) (hi:=r1) d a3
 rw[<- hc0]at d1 d2
 rw[<- hc1]at d3 d4
 clear hr0 hr1 hc0 hc1
 obtain⟨A,hA⟩:∃A,A=((w.alloc (.cells #[.int .i64 a,.int .i64 b] 26)).alloc (.cells #[.int .i64 c,.int .i64 d] 26)).drew:=⟨_,rfl⟩
 have hh:=heap2 w (.cells #[.int .i64 a,.int .i64 b] 26) (.cells #[.int .i64 c,.int .i64 d] 26)
 have hA0:A.heap[w.heap.size]?=some (.cells #[.int .i64 a,.int .i64 b] 26 (0,0)):=by rw[hA];exact hh.1
 have hA1:A.heap[w.heap.size+1]?=some (.cells #[.int .i64 c,.int .i64 d] 26 (0,0)):=by rw[hA];exact hh.2
 have bA:Below w.heap.size w A:=by rw[hA];exact (((Below.refl _ _).alloc (Nat.le_refl _) _).alloc (by simp) _).drew
 have hS0:A.cell? ⟨w.heap.size,0,none⟩=some (.int .i64 a)/\A.cell? ⟨w.heap.size,1,none⟩=some (.int .i64 b):=⟨by simp[World.cell?,hA0],by simp[World.cell?,hA0]⟩
 have hS1:(A.alloc (.cells #[.int .i64 0,.int .i64 0] 26)).cell? ⟨w.heap.size,0,none⟩=some (.int .i64 a)/\(A.alloc (.cells #[.int .i64 0,.int .i64 0] 26)).cell? ⟨w.heap.size,1,none⟩=some (.int .i64 b):=⟨cell_al _ hS0.1,cell_al _ hS0.2⟩
 have hS2:(A.alloc (.cells #[.int .i64 (r0:Int),.int .i64 (r1:Int)] 26)).cell? ⟨w.heap.size,0,none⟩=some (.int .i64 a)/\(A.alloc (.cells #[.int .i64 (r0:Int),.int .i64 (r1:Int)] 26)).cell? ⟨w.heap.size,1,none⟩=some (.int .i64 b):=⟨cell_al _ hS0.1,cell_al _ hS0.2⟩
 have HA:=hid hA
 have K1:=hid (And.intro hA1 bA)
 clear hh hA0 hA1 bA hA
 go_enter Tryz.func20,Tryz.ntmps20
 go_upto_region 1 with fail
 go_cut [7] (fun v wx=>v=.pointer (some ⟨A.heap.size,0,none⟩)/\wx=A.alloc (.cells #[.int .i64 (r0:Int),.int .i64 (r1:Int)] 26))
 case first=>
  as_aux_lemma=>
  go_wp2_with fail
  refine Gz (S:=fun w'=>w'.cell? ⟨w.heap.size,0,none⟩=some (.int .i64 a)/\w'.cell? ⟨w.heap.size,1,none⟩=some (.int .i64 b)) (by rw[<- HA.out];exact hS0) (fun hSS=>?_)
  rw[<- HA.out]at hSS ⊢
  refine Ti 0 rfl ?_
  refine Ti 1 rfl ?_
  refine Ti 3 rfl ?_
  refine Ti 4 rfl ?_
  try simp only[Act.put,zA,zB,zC]
  refine Rr 2 7 rfl rfl (fun K9 hK9=>?_) (fun K9 hK9=>?_)
  ·go_simp
   go_at_call 7
   refine Calls.mono (W0.out _) ?_
   rintro e w' ⟨rfl,hw'⟩
   rw[hw']
   clear hw'
   refine hK9.out _ _ hS0 (fun hSS=>?_)
   try simp only[Act.put,zA,zB,zC]
   refine Rr 5 7 rfl rfl (fun K9 hK9=>?_) (fun K9 hK9=>?_)
   ·go_simp
    go_at_call 7
    refine Calls.mono (W1.out _) ?_
    rintro e w' ⟨rfl,hw'⟩
    rw[hw']
    clear hw'
    refine hK9.out _ _ hS0 (fun hSS=>?_)
    try simp only[Act.put,zA,zB,zC]
    refine Ti 6 rfl ?_
    try simp only[Act.put,zA,zB,zC]
    refine Ri 7 rfl (fun K9 hK9=>?_)
    go_simp
    refine hK9.out _ _ hS1 (fun hSS=>?_)
    try simp only[Act.put,zA,zB,zC]
    refine Ri 8 rfl (fun K9 hK9=>?_)
    go_simp
    refine hK9.out _ _ hS2 (fun hSS=>?_)
    try simp only[Act.put,zA,zB,zC]
    refine Dn ?_
    clear hSS
    go_wp2_with fail
    go_meet
    exact⟨rfl,rfl⟩
   ·go_simp
    refine hK9.out _ _ hS1 (fun hSS=>?_)
    try simp only[Act.put,zA,zB,zC]
    refine Ri 5 rfl (fun K9 hK9=>?_)
    go_simp
    go_at_call 7
    refine Calls.mono (W1.out _) ?_
    rintro e w' ⟨rfl,hw'⟩
    rw[hw']
    clear hw'
    refine hK9.out _ _ hS1 (fun hSS=>?_)
    try simp only[Act.put,zA,zB,zC]
    refine Ti 6 rfl ?_
    try simp only[Act.put,zA,zB,zC]
    refine Ri 8 rfl (fun K9 hK9=>?_)
    go_simp
    refine hK9.out _ _ hS2 (fun hSS=>?_)
    try simp only[Act.put,zA,zB,zC]
    refine Dn ?_
    clear hSS
    go_wp2_with fail
    go_meet
    exact⟨rfl,rfl⟩
  ·go_simp
   refine hK9.out _ _ hS1 (fun hSS=>?_)
   try simp only[Act.put,zA,zB,zC]
   refine Ri 2 rfl (fun K9 hK9=>?_)
   go_simp
   go_at_call 7
   refine Calls.mono (W0.out _) ?_
   rintro e w' ⟨rfl,hw'⟩
   rw[hw']
   clear hw'
   refine hK9.out _ _ hS1 (fun hSS=>?_)
   try simp only[Act.put,zA,zB,zC]
   refine Ri 5 rfl (fun K9 hK9=>?_)
   go_simp
   go_at_call 7
   refine Calls.mono (W1.out _) ?_
   rintro e w' ⟨rfl,hw'⟩
   rw[hw']
   clear hw'
   refine hK9.out _ _ hS1 (fun hSS=>?_)
   try simp only[Act.put,zA,zB,zC]
   refine Ti 6 rfl ?_
   try simp only[Act.put,zA,zB,zC]
   refine Ri 8 rfl (fun K9 hK9=>?_)
   go_simp
   refine hK9.out _ _ hS2 (fun hSS=>?_)
   try simp only[Act.put,zA,zB,zC]
   refine Dn ?_
   clear hSS
   go_wp2_with fail
   go_meet
   exact⟨rfl,rfl⟩
 case rest=>
  obtain⟨rfl,hwx⟩:=hcut
  rw[hwx]
  obtain⟨hA1,bA⟩:=K1.out
  obtain⟨B,hB⟩:∃B,B=(A.alloc (.cells #[.int .i64 (r0:Int),.int .i64 (r1:Int)] 26)).drew:=⟨_,rfl⟩
  have bAB:Below A.heap.size A B:=by rw[hB];exact ((Below.refl _ _).alloc (Nat.le_refl _) _).drew
  have hBk:B.heap[A.heap.size]?=some (.cells #[.int .i64 (r0:Int),.int .i64 (r1:Int)] 26 (0,0)):=by rw[hB];exact Array.getElem?_push_size
  have hB1:=(bAB.block (w.heap.size+1) (Array.getElem?_eq_some_iff.1 hA1).1).trans hA1
  have bB:Below w.heap.size w B:=bA.trans (bAB.mono bA.size)
  have sAB:A.heap.size<B.heap.size:=(Array.getElem?_eq_some_iff.1 hBk).1
  replace hS0:B.cell? ⟨w.heap.size+1,0,none⟩=some (.int .i64 c)/\B.cell? ⟨w.heap.size+1,1,none⟩=some (.int .i64 d)/\B.cell? ⟨A.heap.size,0,none⟩=some (.int .i64 (r0:Int))/\B.cell? ⟨A.heap.size,1,none⟩=some (.int .i64 (r1:Int)):=⟨by simp[World.cell?,hB1],by simp[World.cell?,hB1],by simp[World.cell?,hBk],by simp[World.cell?,hBk]⟩
  replace hS1:(B.alloc (.cells #[.int .i64 0,.int .i64 0] 26)).cell? ⟨w.heap.size+1,0,none⟩=some (.int .i64 c)/\(B.alloc (.cells #[.int .i64 0,.int .i64 0] 26)).cell? ⟨w.heap.size+1,1,none⟩=some (.int .i64 d)/\(B.alloc (.cells #[.int .i64 0,.int .i64 0] 26)).cell? ⟨A.heap.size,0,none⟩=some (.int .i64 (r0:Int))/\(B.alloc (.cells #[.int .i64 0,.int .i64 0] 26)).cell? ⟨A.heap.size,1,none⟩=some (.int .i64 (r1:Int)):=⟨cell_al _ hS0.1,cell_al _ hS0.2.1,cell_al _ hS0.2.2.1,cell_al _ hS0.2.2.2⟩
  replace hS2:(B.alloc (.cells #[.int .i64 (c0:Int),.int .i64 (c1:Int)] 26)).cell? ⟨w.heap.size+1,0,none⟩=some (.int .i64 c)/\(B.alloc (.cells #[.int .i64 (c0:Int),.int .i64 (c1:Int)] 26)).cell? ⟨w.heap.size+1,1,none⟩=some (.int .i64 d)/\(B.alloc (.cells #[.int .i64 (c0:Int),.int .i64 (c1:Int)] 26)).cell? ⟨A.heap.size,0,none⟩=some (.int .i64 (r0:Int))/\(B.alloc (.cells #[.int .i64 (c0:Int),.int .i64 (c1:Int)] 26)).cell? ⟨A.heap.size,1,none⟩=some (.int .i64 (r1:Int)):=⟨cell_al _ hS0.1,cell_al _ hS0.2.1,cell_al _ hS0.2.2.1,cell_al _ hS0.2.2.2⟩
  have HB:=hid hB
  have K2:=hid (And.intro hBk (And.intro bB sAB))
  clear hwx hA1 bA hB bAB hBk hB1 bB sAB K1 HA W0 W1
  go_upto_region 2 with fail
  go_cut [8] (fun v wx=>v=.pointer (some ⟨B.heap.size,0,none⟩)/\wx=B.alloc (.cells #[.int .i64 (c0:Int),.int .i64 (c1:Int)] 26))
  case first=>
   as_aux_lemma=>
   go_wp2_with fail
   refine Gz (S:=fun w'=>w'.cell? ⟨w.heap.size+1,0,none⟩=some (.int .i64 c)/\w'.cell? ⟨w.heap.size+1,1,none⟩=some (.int .i64 d)/\w'.cell? ⟨A.heap.size,0,none⟩=some (.int .i64 (r0:Int))/\w'.cell? ⟨A.heap.size,1,none⟩=some (.int .i64 (r1:Int))) (by rw[<- HB.out];exact hS0) (fun hSS=>?_)
   rw[<- HB.out]at hSS ⊢
   refine Ti 0 rfl ?_
   refine Ti 1 rfl ?_
   refine Ti 2 rfl ?_
   try simp only[Act.put,zA,zB,zC]
   refine Ti 3 rfl ?_
   refine Ti 5 rfl ?_
   refine Ti 6 rfl ?_
   refine Ti 7 rfl ?_
   refine Ti 8 rfl ?_
   try simp only[Act.put,zA,zB,zC]
   refine Rr 4 11 rfl rfl (fun K9 hK9=>?_) (fun K9 hK9=>?_)
   ·go_simp
    go_at_call 7
    refine Calls.mono (W2.out _) ?_
    rintro e w' ⟨rfl,hw'⟩
    rw[hw']
    clear hw'
    refine hK9.out _ _ hS0 (fun hSS=>?_)
    try simp only[Act.put,zA,zB,zC]
    refine Rr 9 11 rfl rfl (fun K9 hK9=>?_) (fun K9 hK9=>?_)
    ·go_simp
     go_at_call 7
     refine Calls.mono (W3.out _) ?_
     rintro e w' ⟨rfl,hw'⟩
     rw[hw']
     clear hw'
     refine hK9.out _ _ hS0 (fun hSS=>?_)
     try simp only[Act.put,zA,zB,zC]
     refine Ti 10 rfl ?_
     try simp only[Act.put,zA,zB,zC]
     refine Ri 11 rfl (fun K9 hK9=>?_)
     go_simp
     refine hK9.out _ _ hS1 (fun hSS=>?_)
     try simp only[Act.put,zA,zB,zC]
     refine Ri 12 rfl (fun K9 hK9=>?_)
     go_simp
     refine hK9.out _ _ hS2 (fun hSS=>?_)
     try simp only[Act.put,zA,zB,zC]
     refine Dn ?_
     clear hSS
     go_wp2_with fail
     go_meet
     exact⟨rfl,rfl⟩
    ·go_simp
     refine hK9.out _ _ hS1 (fun hSS=>?_)
     try simp only[Act.put,zA,zB,zC]
     refine Ri 9 rfl (fun K9 hK9=>?_)
     go_simp
     go_at_call 7
     refine Calls.mono (W3.out _) ?_
     rintro e w' ⟨rfl,hw'⟩
     rw[hw']
     clear hw'
     refine hK9.out _ _ hS1 (fun hSS=>?_)
     try simp only[Act.put,zA,zB,zC]
     refine Ti 10 rfl ?_
     try simp only[Act.put,zA,zB,zC]
     refine Ri 12 rfl (fun K9 hK9=>?_)
     go_simp
     refine hK9.out _ _ hS2 (fun hSS=>?_)
     try simp only[Act.put,zA,zB,zC]
     refine Dn ?_
     clear hSS
     go_wp2_with fail
     go_meet
     exact⟨rfl,rfl⟩
   ·go_simp
    refine hK9.out _ _ hS1 (fun hSS=>?_)
    try simp only[Act.put,zA,zB,zC]
    refine Ri 4 rfl (fun K9 hK9=>?_)
    go_simp
    go_at_call 7
    refine Calls.mono (W2.out _) ?_
    rintro e w' ⟨rfl,hw'⟩
    rw[hw']
    clear hw'
    refine hK9.out _ _ hS1 (fun hSS=>?_)
    try simp only[Act.put,zA,zB,zC]
    refine Ri 9 rfl (fun K9 hK9=>?_)
    go_simp
    go_at_call 7
    refine Calls.mono (W3.out _) ?_
    rintro e w' ⟨rfl,hw'⟩
    rw[hw']
    clear hw'
    refine hK9.out _ _ hS1 (fun hSS=>?_)
    try simp only[Act.put,zA,zB,zC]
    refine Ti 10 rfl ?_
    try simp only[Act.put,zA,zB,zC]
    refine Ri 12 rfl (fun K9 hK9=>?_)
    go_simp
    refine hK9.out _ _ hS2 (fun hSS=>?_)
    try simp only[Act.put,zA,zB,zC]
    refine Dn ?_
    clear hSS
    go_wp2_with fail
    go_meet
    exact⟨rfl,rfl⟩
  case rest=>
   obtain⟨rfl,hwx⟩:=hcut
   rw[hwx]
   clear hwx hS0 hS1 hS2 W2 W3 HB
   obtain⟨hBk,bB,sAB⟩:=K2.out
   obtain⟨D,hD⟩:∃D,D=B.alloc (.cells #[.int .i64 (c0:Int),.int .i64 (c1:Int)] 26):=⟨_,rfl⟩
   rw[<- hD]
   have bBD:Below B.heap.size B D:=by rw[hD];exact (Below.refl _ _).alloc (Nat.le_refl _) _
   have sD:B.heap.size<D.heap.size:=by rw[hD];simp
   have hDk:=(bBD.block A.heap.size sAB).trans hBk
   have hDl:D.heap[B.heap.size]?=some (.cells #[.int .i64 (c0:Int),.int .i64 (c1:Int)] 26 (0,0)):=by rw[hD];exact Array.getElem?_push_size
   have k0:D.cell? ⟨A.heap.size,0,none⟩=some (.int .i64 (r0:Int)):=by simp[World.cell?,hDk]
   have k1:D.cell? ⟨A.heap.size,1,none⟩=some (.int .i64 (r1:Int)):=by simp[World.cell?,hDk]
   have l0:D.cell? ⟨B.heap.size,0,none⟩=some (.int .i64 (c0:Int)):=by simp[World.cell?,hDl]
   have l1:D.cell? ⟨B.heap.size,1,none⟩=some (.int .i64 (c1:Int)):=by simp[World.cell?,hDl]
   have bD:Below w.heap.size w D:=bB.trans (bBD.mono bB.size)
   have HWo:=hid (HW r0 r1 c0 c1 D ⟨a1,a2⟩ ⟨a3,a4⟩ ⟨d1,d2⟩ ⟨d3,d4⟩ bD)
   have HK:=hid (And.intro hDk (And.intro hDl (And.intro (Nat.lt_trans sAB sD) sD)))
   clear hBk bB sAB K2 hD bBD hDk hDl bD sD HW
   go_wp2_with fail
   refine Calls.mono HWo.out ?_
   rintro e wa ⟨o,rfl,ba,HF⟩
   obtain⟨hDk,hDl,sk,sl⟩:=HK.out
   have hak:=(ba.block A.heap.size sk).trans hDk
   have hal:=(ba.block B.heap.size sl).trans hDl
   have ska:=Nat.lt_of_lt_of_le sk ba.size
   have sla:=Nat.lt_of_lt_of_le sl ba.size
   have HS0:Hid (∀W,Below wa.heap.size wa W->W.cell? ⟨A.heap.size,0,none⟩=some (.int .i64 (r0:Int))/\W.cell? ⟨B.heap.size,0,none⟩=some (.int .i64 (c0:Int))):=fun W b=>by
    have e1:=(b.block A.heap.size ska).trans hak
    have e2:=(b.block B.heap.size sla).trans hal
    exact⟨by simp[World.cell?,e1],by simp[World.cell?,e2]⟩
   have HS1:Hid (∀W,Below wa.heap.size wa W->W.cell? ⟨A.heap.size,1,none⟩=some (.int .i64 (r1:Int))/\W.cell? ⟨B.heap.size,1,none⟩=some (.int .i64 (c1:Int))):=fun W b=>by
    have e1:=(b.block A.heap.size ska).trans hak
    have e2:=(b.block B.heap.size sla).trans hal
    exact⟨by simp[World.cell?,e1],by simp[World.cell?,e2]⟩
   have HN0:Hid (∀u,_):=fun u=>rNew_ok r0 c0 ⟨a1,by omega⟩ ⟨d1,d2⟩ u
   have HN1:Hid (∀u,_):=fun u=>rNew_ok r1 c1 ⟨a3,by omega⟩ ⟨d3,d4⟩ u
   have HFF:=hid HF
   have HI0:Hid (Below wa.heap.size wa (wa.alloc (.cells #[.slice none 0 0,.int .i64 0,.slice none 0 0,.int .i64 0,.slice none 0 0,.int .i64 0,.slice none 0 0,.int .i64 0,.slice none 0 0] 112))/\(wa.alloc (.cells #[.slice none 0 0,.int .i64 0,.slice none 0 0,.int .i64 0,.slice none 0 0,.int .i64 0,.slice none 0 0,.int .i64 0,.slice none 0 0] 112)).heap[wa.heap.size]?=some (.cells #[.slice none 0 0,.int .i64 0,.slice none 0 0,.int .i64 0,.slice none 0 0,.int .i64 0,.slice none 0 0,.int .i64 0,.slice none 0 0] 112 (0,0))):=⟨(Below.refl _ _).alloc (Nat.le_refl _) _,Array.getElem?_push_size⟩
   clear HF hDk hDl sk sl hak hal ska sla HK ba k0 k1 l0 l1 HWo
   go_wp2_with fail
   go_loopw [11] (fun iv wr=>∃q:Nat,q<=2/\iv=.int .i64 (q:Int)/\((q=0/\Below wa.heap.size wa wr/\wr.heap[wa.heap.size]?=some (.cells #[.slice none 0 0,.int .i64 0,.slice none 0 0,.int .i64 0,.slice none 0 0,.int .i64 0,.slice none 0 0,.int .i64 0,.slice none 0 0] 112 (0,0)))\/(q=1/\∃tv0,Below wa.heap.size wa wr/\wr.heap[wa.heap.size]?=some (.cells #[tv0,.int .i64 (c0:Int),.slice none 0 0,.int .i64 0,.slice none 0 0,.int .i64 0,.slice none 0 0,.int .i64 0,.slice none 0 0] 112 (0,0))/\wr.ownsRow (wa.heap.size+1) 3 1 tv0 r0 (List.replicate r0 (.int .i64 0)))\/(q=2/\∃tv0 tv1,Below wa.heap.size wa wr/\wr.heap[wa.heap.size]?=some (.cells #[tv0,.int .i64 (c0:Int),tv1,.int .i64 (c1:Int),.slice none 0 0,.int .i64 0,.slice none 0 0,.int .i64 0,.slice none 0 0] 112 (0,0))/\wr.ownsRow (wa.heap.size+1) 3 1 tv0 r0 (List.replicate r0 (.int .i64 0))/\wr.ownsRow (wa.heap.size+1) 3 1 tv1 r1 (List.replicate r1 (.int .i64 0))/\tv0.ownBlock≠tv1.ownBlock))) (fun iv _=>2-(intOf iv).toNat)
   case atStart=>exact⟨0,by decide,rfl,.inl ⟨rfl,HI0.out⟩⟩
   case round=>
    clear HI0
    rename World=>wo
    obtain⟨q,hq2,rfl,hR⟩:=hrel
    rcases hR with ⟨hq,hR⟩ | ⟨hq,hR⟩ | ⟨hq,hR⟩
    ·subst hq
     obtain⟨bo,hb⟩:=hR
     obtain⟨A0,hA0⟩:∃A0,A0=wo.drew:=⟨_,rfl⟩
     have bA0:Below wa.heap.size wa A0:=by rw[hA0];exact bo.drew
     have hb0:A0.heap[wa.heap.size]?=some (.cells #[.slice none 0 0,.int .i64 0,.slice none 0 0,.int .i64 0,.slice none 0 0,.int .i64 0,.slice none 0 0,.int .i64 0,.slice none 0 0] 112 (0,0)):=by rw[hA0];exact hb
     skip
     have HA0:=hid hA0
     have hS0:=HS0.out A0 bA0
     have KB:=hid hb0
     clear hA0 hb0 hb bo
     go_upto_region 10 with fail
     go_cut [12,13] (fun v12 v13 wx=>v13=.int .i64 0/\∃p tv,v12=.pointer (some ⟨p,0,none⟩)/\wx.heap[p]?=some (.cells #[tv,.int .i64 (c0:Int)] 107 (0,0))/\wx.ownsRow A0.heap.size 3 1 tv r0 (List.replicate r0 (.int .i64 0))/\Below A0.heap.size A0 wx/\A0.heap.size<=p)
     case first=>
      as_aux_lemma=>
      have HN:=hid HN0.out
      have HS:=hid HS0.out
      clear HN0 HN1 HS0 HS1 HFF KB
      go_wp2_with fail
      refine Gz (S:=fun w'=>w'.cell? ⟨A.heap.size,0,none⟩=some (.int .i64 (r0:Int))/\w'.cell? ⟨B.heap.size,0,none⟩=some (.int .i64 (c0:Int))) (by rw[<- HA0.out];exact hS0) (fun hSS=>?_)
      rw[<- HA0.out]at hSS ⊢
      clear HA0
      refine Ti 0 rfl ?_
      refine Ti 1 rfl ?_
      try simp only[Act.put,zA,zB,zC]
      refine Ti 2 rfl ?_
      refine Ti 3 rfl ?_
      refine Ti 4 rfl ?_
      refine Ti 5 rfl ?_
      try simp only[Act.put,zA,zB,zC]
      refine Rr 6 10 rfl rfl (fun K9 hK9=>?_) (fun K9 hK9=>?_)
      ·go_simp
       go_at_call 51
       refine Calls.mono (HN.out _) ?_
       rintro e w2 ⟨tv,rfl,hown,b2⟩
       obtain⟨ta,tc,rfl,_⟩:=owns_slice hown
       have bw:Below wa.heap.size wa w2:=bA0.trans (b2.mono bA0.size)
       have hbs:=bw.size
       refine hK9.out _ _ (HS.out _ bw) (fun hSS=>?_)
       try simp only[Act.put,zA,zB,zC]
       refine Ti 7 rfl ?_
       refine Ti 8 rfl ?_
       refine Ti 9 rfl ?_
       try simp only[Act.put,zA,zB,zC]
       refine Ri 10 rfl (fun K9 hK9=>?_)
       go_simp
       refine hK9.out _ _ (HS.out _ (bw.alloc hbs _)) (fun hSS=>?_)
       try simp only[Act.put,zA,zB,zC]
       refine Ri 11 rfl (fun K9 hK9=>?_)
       go_simp
       refine hK9.out _ _ (HS.out _ (bw.alloc hbs _)) (fun hSS=>?_)
       try simp only[Act.put,zA,zB,zC]
       refine Ti 12 rfl ?_
       try simp only[Act.put,zA,zB,zC]
       refine Dn ?_
       clear hSS
       go_wp2_with fail
       go_meet
       exact⟨rfl,w2.heap.size,_,rfl,Array.getElem?_push_size,hown.alloc _,b2.alloc b2.size _,b2.size⟩
      ·go_simp
       have b01:Below A0.heap.size A0 (A0.alloc (.cells #[.slice none 0 0,.int .i64 0] 107)):=(Below.refl _ _).alloc (Nat.le_refl _) _
       have hp1:(A0.alloc (.cells #[.slice none 0 0,.int .i64 0] 107)).heap[A0.heap.size]?=some (.cells #[.slice none 0 0,.int .i64 0] 107 (0,0)):=Array.getElem?_push_size
       have bw1:=bA0.trans (b01.mono bA0.size)
       refine hK9.out _ _ (HS.out _ bw1) (fun hSS=>?_)
       try simp only[Act.put,zA,zB,zC]
       refine Ri 6 rfl (fun K9 hK9=>?_)
       go_simp
       go_at_call 51
       refine Calls.mono (HN.out _) ?_
       rintro e w2 ⟨tv,rfl,hown,b2⟩
       obtain⟨ta,tc,rfl,_⟩:=owns_slice hown
       have bw:Below wa.heap.size wa w2:=bw1.trans (b2.mono bw1.size)
       have hp2:=(b2.block A0.heap.size (by simp)).trans hp1
       have p0:w2.cell? ⟨A0.heap.size,0,none⟩=some (.slice none 0 0):=by simp[World.cell?,hp2]
       have p1:w2.cell? ⟨A0.heap.size,1,none⟩=some (.int .i64 0):=by simp[World.cell?,hp2]
       have f0:w2.frozen? ⟨A0.heap.size,0,none⟩=false:=by simp[World.frozen?,hp2]
       have f1:w2.frozen? ⟨A0.heap.size,1,none⟩=false:=by simp[World.frozen?,hp2]
       have hbs:=bA0.size
       refine hK9.out _ _ (HS.out _ bw) (fun hSS=>?_)
       try simp only[Act.put,zA,zB,zC]
       refine Ti 7 rfl ?_
       try simp only[Act.put,zA,zB,zC]
       refine Ti 8 rfl ?_
       refine Ti 9 rfl ?_
       try simp only[Act.put,zA,zB,zC]
       refine Ri 11 rfl (fun K9 hK9=>?_)
       go_simp
       have bw3:=(bw.setCell (p:=⟨A0.heap.size,0,none⟩) hbs (.slice ta r0 tc)).setCell (p:=⟨A0.heap.size,1,none⟩) hbs (.int .i64 (c0:Int))
       refine hK9.out _ _ (HS.out _ bw3) (fun hSS=>?_)
       try simp only[Act.put,zA,zB,zC]
       refine Ti 12 rfl ?_
       try simp only[Act.put,zA,zB,zC]
       refine Dn ?_
       clear hSS p0 p1 f0 f1
       go_wp2_with fail
       go_meet
       have bS:=(but_set w2 A0.heap.size 0 (.slice ta r0 tc)).trans (but_set _ A0.heap.size 1 (.int .i64 (c0:Int)))
       refine⟨rfl,A0.heap.size,_,rfl,set2 hp2 _ _,owns_base (owns_keep hown (fun g' e=>bS.block g' (World.ownsRow.lt hown g' e).2 (fun q=>?_))) (by simp),((b01.trans (b2.mono b01.size)).setCell (p:=⟨A0.heap.size,0,none⟩) (Nat.le_refl _) _).setCell (p:=⟨A0.heap.size,1,none⟩) (Nat.le_refl _) _,Nat.le_refl _⟩
       have:=(World.ownsRow.lt hown g' e).1
       simp at this
       omega
     case rest=>
      obtain⟨rfl,p,tv,rfl,hp,hown,bx,hpl⟩:=hcut
      obtain⟨ta,tc,rfl,_⟩:=owns_slice hown
      rename World=>wx
      have hb0:=KB.out
      have s0:=bA0.size
      have hkl:=(Array.getElem?_eq_some_iff.1 hb0).1
      obtain⟨Q,hQ⟩:∃Q,Q=wx.drew:=⟨_,rfl⟩
      have hpQ:Q.heap[p]?=some (.cells #[.slice ta r0 tc,.int .i64 (c0:Int)] 107 (0,0)):=by rw[hQ];exact hp
      have hbQ:Q.heap[wa.heap.size]?=some (.cells #[.slice none 0 0,.int .i64 0,.slice none 0 0,.int .i64 0,.slice none 0 0,.int .i64 0,.slice none 0 0,.int .i64 0,.slice none 0 0] 112 (0,0)):=by rw[hQ];exact (bx.block _ hkl).trans hb0
      have bQ:Below wa.heap.size wa Q:=by rw[hQ];exact (bA0.trans (bx.mono s0)).drew
      have hoQ:Q.ownsRow A0.heap.size 3 1 (.slice ta r0 tc) r0 (List.replicate r0 (.int .i64 0)):=by rw[hQ];exact owns_keep hown (fun _ _=>rfl)
      have hne:p≠wa.heap.size:=by omega
      have bS:=(but_set Q wa.heap.size 0 (.slice ta r0 tc)).trans (but_set _ wa.heap.size 1 (.int .i64 (c0:Int)))
      have FB:=hid ((bQ.setCell (p:=⟨wa.heap.size,0,none⟩) (Nat.le_refl _) (.slice ta r0 tc)).setCell (p:=⟨wa.heap.size,1,none⟩) (Nat.le_refl _) (.int .i64 (c0:Int)))
      have FK:=hid (blk_set (blk_set hbQ 0 (.slice ta r0 tc)) 1 (.int .i64 (c0:Int)))
      have FO:Hid (((Q.setCell ⟨wa.heap.size,0,none⟩ (.slice ta r0 tc)).setCell ⟨wa.heap.size,1,none⟩ (.int .i64 (c0:Int))).ownsRow (wa.heap.size+1) 3 1 (.slice ta r0 tc) r0 (List.replicate r0 (.int .i64 0))):=owns_base (owns_keep hoQ (fun g' e=>bS.block g' (World.ownsRow.lt hoQ g' e).2 (fun q=>by have:=(World.ownsRow.lt hoQ g' e).1;omega))) (by omega)
      skip
      have e0:Q.cell? ⟨wa.heap.size,0,none⟩=some (.slice none 0 0):=by simp[World.cell?,hbQ]
      have e1:Q.cell? ⟨wa.heap.size,1,none⟩=some (.int .i64 0):=by simp[World.cell?,hbQ]
      have g0:Q.frozen? ⟨wa.heap.size,0,none⟩=false:=by simp[World.frozen?,hbQ]
      have g1:Q.frozen? ⟨wa.heap.size,1,none⟩=false:=by simp[World.frozen?,hbQ]
      have hS3:Q.cell? ⟨p,0,none⟩=some (.slice ta r0 tc)/\Q.cell? ⟨p,1,none⟩=some (.int .i64 (c0:Int)):=⟨by simp[World.cell?,hpQ],by simp[World.cell?,hpQ]⟩
      have hpS:=(bS.block p (Array.getElem?_eq_some_iff.1 hpQ).1 hne).trans hpQ
      have hS4:((Q.setCell ⟨wa.heap.size,0,none⟩ (.slice ta r0 tc)).setCell ⟨wa.heap.size,1,none⟩ (.int .i64 (c0:Int))).cell? ⟨p,0,none⟩=some (.slice ta r0 tc)/\((Q.setCell ⟨wa.heap.size,0,none⟩ (.slice ta r0 tc)).setCell ⟨wa.heap.size,1,none⟩ (.int .i64 (c0:Int))).cell? ⟨p,1,none⟩=some (.int .i64 (c0:Int)):=⟨by simp[World.cell?,hpS],by simp[World.cell?,hpS]⟩
      have HQ:=hid hQ
      clear hp hown bx hpl hpQ hbQ bQ hoQ hne bS hpS hb0 s0 hkl KB hQ hS0 HA0 bA0
      go_wp2_with fail
      refine Gz (S:=fun w'=>w'.cell? ⟨p,0,none⟩=some (.slice ta r0 tc)/\w'.cell? ⟨p,1,none⟩=some (.int .i64 (c0:Int))) (by rw[<- HQ.out];exact hS3) (fun hSS=>?_)
      rw[<- HQ.out]at hSS ⊢
      refine Ti 0 rfl ?_
      refine Ti 1 rfl ?_
      refine Ti 2 rfl ?_
      refine Ti 3 rfl ?_
      refine Ti 4 rfl ?_
      try simp only[Act.put,zA,zB,zC]
      refine Ti 5 rfl ?_
      try simp only[Act.put,zA,zB,zC]
      refine Ri 6 rfl (fun K9 hK9=>?_)
      go_simp
      refine hK9.out _ _ hS4 (fun hSS=>?_)
      try simp only[Act.put,zA,zB,zC]
      refine Dn ?_
      clear hSS hS3 hS4 e0 e1 g0 g1 HQ
      go_wp2_with fail
      go_roundw
      case rel=>exact⟨1,by decide,by go_num,.inr (.inl ⟨rfl,_,FB.out,FK.out,FO.out⟩)⟩
      case measure=>simp[intOf]
    ·subst hq
     obtain⟨tv0,bo,hb,o0⟩:=hR
     obtain⟨A0,hA0⟩:∃A0,A0=wo.drew:=⟨_,rfl⟩
     have bA0:Below wa.heap.size wa A0:=by rw[hA0];exact bo.drew
     have hb0:A0.heap[wa.heap.size]?=some (.cells #[tv0,.int .i64 (c0:Int),.slice none 0 0,.int .i64 0,.slice none 0 0,.int .i64 0,.slice none 0 0,.int .i64 0,.slice none 0 0] 112 (0,0)):=by rw[hA0];exact hb
     have o00:A0.ownsRow (wa.heap.size+1) 3 1 tv0 r0 (List.replicate r0 (.int .i64 0)):=by rw[hA0];exact owns_keep o0 (fun _ _=>rfl)
     have HA0:=hid hA0
     have hS0:=HS1.out A0 bA0
     have KB:=hid (And.intro hb0 o00)
     clear hA0 hb0 hb bo o0 o00
     go_upto_region 10 with fail
     go_cut [12,13] (fun v12 v13 wx=>v13=.int .i64 0/\∃p tv,v12=.pointer (some ⟨p,0,none⟩)/\wx.heap[p]?=some (.cells #[tv,.int .i64 (c1:Int)] 107 (0,0))/\wx.ownsRow A0.heap.size 3 1 tv r1 (List.replicate r1 (.int .i64 0))/\Below A0.heap.size A0 wx/\A0.heap.size<=p)
     case first=>
      as_aux_lemma=>
      have HN:=hid HN1.out
      have HS:=hid HS1.out
      clear HN0 HN1 HS0 HS1 HFF KB
      go_wp2_with fail
      refine Gz (S:=fun w'=>w'.cell? ⟨A.heap.size,1,none⟩=some (.int .i64 (r1:Int))/\w'.cell? ⟨B.heap.size,1,none⟩=some (.int .i64 (c1:Int))) (by rw[<- HA0.out];exact hS0) (fun hSS=>?_)
      rw[<- HA0.out]at hSS ⊢
      clear HA0
      refine Ti 0 rfl ?_
      refine Ti 1 rfl ?_
      refine Ti 2 rfl ?_
      refine Ti 3 rfl ?_
      refine Ti 4 rfl ?_
      refine Ti 5 rfl ?_
      try simp only[Act.put,zA,zB,zC]
      refine Rr 6 10 rfl rfl (fun K9 hK9=>?_) (fun K9 hK9=>?_)
      ·go_simp
       go_at_call 51
       refine Calls.mono (HN.out _) ?_
       rintro e w2 ⟨tv,rfl,hown,b2⟩
       obtain⟨ta,tc,rfl,_⟩:=owns_slice hown
       have bw:Below wa.heap.size wa w2:=bA0.trans (b2.mono bA0.size)
       have hbs:=bw.size
       refine hK9.out _ _ (HS.out _ bw) (fun hSS=>?_)
       try simp only[Act.put,zA,zB,zC]
       refine Ti 7 rfl ?_
       try simp only[Act.put,zA,zB,zC]
       refine Ti 8 rfl ?_
       refine Ti 9 rfl ?_
       try simp only[Act.put,zA,zB,zC]
       refine Ri 10 rfl (fun K9 hK9=>?_)
       go_simp
       refine hK9.out _ _ (HS.out _ (bw.alloc hbs _)) (fun hSS=>?_)
       try simp only[Act.put,zA,zB,zC]
       refine Ri 11 rfl (fun K9 hK9=>?_)
       go_simp
       refine hK9.out _ _ (HS.out _ (bw.alloc hbs _)) (fun hSS=>?_)
       try simp only[Act.put,zA,zB,zC]
       refine Ti 12 rfl ?_
       try simp only[Act.put,zA,zB,zC]
       refine Dn ?_
       clear hSS
       go_wp2_with fail
       go_meet
       exact⟨rfl,w2.heap.size,_,rfl,Array.getElem?_push_size,hown.alloc _,b2.alloc b2.size _,b2.size⟩
      ·go_simp
       have b01:Below A0.heap.size A0 (A0.alloc (.cells #[.slice none 0 0,.int .i64 0] 107)):=(Below.refl _ _).alloc (Nat.le_refl _) _
       have hp1:(A0.alloc (.cells #[.slice none 0 0,.int .i64 0] 107)).heap[A0.heap.size]?=some (.cells #[.slice none 0 0,.int .i64 0] 107 (0,0)):=Array.getElem?_push_size
       have bw1:=bA0.trans (b01.mono bA0.size)
       refine hK9.out _ _ (HS.out _ bw1) (fun hSS=>?_)
       try simp only[Act.put,zA,zB,zC]
       refine Ri 6 rfl (fun K9 hK9=>?_)
       go_simp
       go_at_call 51
       refine Calls.mono (HN.out _) ?_
       rintro e w2 ⟨tv,rfl,hown,b2⟩
       obtain⟨ta,tc,rfl,_⟩:=owns_slice hown
       have bw:Below wa.heap.size wa w2:=bw1.trans (b2.mono bw1.size)
       have hp2:=(b2.block A0.heap.size (by simp)).trans hp1
       have p0:w2.cell? ⟨A0.heap.size,0,none⟩=some (.slice none 0 0):=by simp[World.cell?,hp2]
       have p1:w2.cell? ⟨A0.heap.size,1,none⟩=some (.int .i64 0):=by simp[World.cell?,hp2]
       have f0:w2.frozen? ⟨A0.heap.size,0,none⟩=false:=by simp[World.frozen?,hp2]
       have f1:w2.frozen? ⟨A0.heap.size,1,none⟩=false:=by simp[World.frozen?,hp2]
       have hbs:=bA0.size
       refine hK9.out _ _ (HS.out _ bw) (fun hSS=>?_)
       try simp only[Act.put,zA,zB,zC]
       refine Ti 7 rfl ?_
       refine Ti 8 rfl ?_
       refine Ti 9 rfl ?_
       try simp only[Act.put,zA,zB,zC]
       refine Ri 11 rfl (fun K9 hK9=>?_)
       go_simp
       have bw3:=(bw.setCell (p:=⟨A0.heap.size,0,none⟩) hbs (.slice ta r1 tc)).setCell (p:=⟨A0.heap.size,1,none⟩) hbs (.int .i64 (c1:Int))
       refine hK9.out _ _ (HS.out _ bw3) (fun hSS=>?_)
       try simp only[Act.put,zA,zB,zC]
       refine Ti 12 rfl ?_
       try simp only[Act.put,zA,zB,zC]
       refine Dn ?_
       clear hSS p0 p1 f0 f1
       go_wp2_with fail
       go_meet
       have bS:=(but_set w2 A0.heap.size 0 (.slice ta r1 tc)).trans (but_set _ A0.heap.size 1 (.int .i64 (c1:Int)))
       refine⟨rfl,A0.heap.size,_,rfl,set2 hp2 _ _,owns_base (owns_keep hown (fun g' e=>bS.block g' (World.ownsRow.lt hown g' e).2 (fun q=>?_))) (by simp),((b01.trans (b2.mono b01.size)).setCell (p:=⟨A0.heap.size,0,none⟩) (Nat.le_refl _) _).setCell (p:=⟨A0.heap.size,1,none⟩) (Nat.le_refl _) _,Nat.le_refl _⟩
       have:=(World.ownsRow.lt hown g' e).1
       simp at this
       omega
     case rest=>
      obtain⟨rfl,p,tv,rfl,hp,hown,bx,hpl⟩:=hcut
      obtain⟨ta,tc,rfl,_⟩:=owns_slice hown
      rename World=>wx
      obtain⟨hb0,o00⟩:=KB.out
      have s0:=bA0.size
      have hkl:=(Array.getElem?_eq_some_iff.1 hb0).1
      obtain⟨Q,hQ⟩:∃Q,Q=wx.drew:=⟨_,rfl⟩
      have hpQ:Q.heap[p]?=some (.cells #[.slice ta r1 tc,.int .i64 (c1:Int)] 107 (0,0)):=by rw[hQ];exact hp
      have hbQ:Q.heap[wa.heap.size]?=some (.cells #[tv0,.int .i64 (c0:Int),.slice none 0 0,.int .i64 0,.slice none 0 0,.int .i64 0,.slice none 0 0,.int .i64 0,.slice none 0 0] 112 (0,0)):=by rw[hQ];exact (bx.block _ hkl).trans hb0
      have bQ:Below wa.heap.size wa Q:=by rw[hQ];exact (bA0.trans (bx.mono s0)).drew
      have hoQ:Q.ownsRow A0.heap.size 3 1 (.slice ta r1 tc) r1 (List.replicate r1 (.int .i64 0)):=by rw[hQ];exact owns_keep hown (fun _ _=>rfl)
      have hne:p≠wa.heap.size:=by omega
      have bS:=(but_set Q wa.heap.size 2 (.slice ta r1 tc)).trans (but_set _ wa.heap.size 3 (.int .i64 (c1:Int)))
      have FB:=hid ((bQ.setCell (p:=⟨wa.heap.size,2,none⟩) (Nat.le_refl _) (.slice ta r1 tc)).setCell (p:=⟨wa.heap.size,3,none⟩) (Nat.le_refl _) (.int .i64 (c1:Int)))
      have FK:=hid (blk_set (blk_set hbQ 2 (.slice ta r1 tc)) 3 (.int .i64 (c1:Int)))
      have FO:Hid (((Q.setCell ⟨wa.heap.size,2,none⟩ (.slice ta r1 tc)).setCell ⟨wa.heap.size,3,none⟩ (.int .i64 (c1:Int))).ownsRow (wa.heap.size+1) 3 1 (.slice ta r1 tc) r1 (List.replicate r1 (.int .i64 0))):=owns_base (owns_keep hoQ (fun g' e=>bS.block g' (World.ownsRow.lt hoQ g' e).2 (fun q=>by have:=(World.ownsRow.lt hoQ g' e).1;omega))) (by omega)
      have FP:Hid (((Q.setCell ⟨wa.heap.size,2,none⟩ (.slice ta r1 tc)).setCell ⟨wa.heap.size,3,none⟩ (.int .i64 (c1:Int))).ownsRow (wa.heap.size+1) 3 1 tv0 r0 (List.replicate r0 (.int .i64 0))/\tv0.ownBlock≠(Value.slice ta r1 tc).ownBlock):=⟨owns_keep (owns_keep (w':=Q) o00 (fun g' e=>by rw[hQ];exact bx.block g' (World.ownsRow.lt o00 g' e).2)) (fun g' e=>bS.block g' (by have:=(World.ownsRow.lt o00 g' e).2;have:=bx.size;rw[hQ];exact Nat.lt_of_lt_of_le (World.ownsRow.lt o00 g' e).2 bx.size) (fun q=>by have:=(World.ownsRow.lt o00 g' e).1;omega)),fun q=>own_apart o00 hoQ ⟨by omega,Nat.le_refl _⟩ q⟩
      have e0:Q.cell? ⟨wa.heap.size,2,none⟩=some (.slice none 0 0):=by simp[World.cell?,hbQ]
      have e1:Q.cell? ⟨wa.heap.size,3,none⟩=some (.int .i64 0):=by simp[World.cell?,hbQ]
      have g0:Q.frozen? ⟨wa.heap.size,2,none⟩=false:=by simp[World.frozen?,hbQ]
      have g1:Q.frozen? ⟨wa.heap.size,3,none⟩=false:=by simp[World.frozen?,hbQ]
      have hS3:Q.cell? ⟨p,0,none⟩=some (.slice ta r1 tc)/\Q.cell? ⟨p,1,none⟩=some (.int .i64 (c1:Int)):=⟨by simp[World.cell?,hpQ],by simp[World.cell?,hpQ]⟩
      have hpS:=(bS.block p (Array.getElem?_eq_some_iff.1 hpQ).1 hne).trans hpQ
      have hS4:((Q.setCell ⟨wa.heap.size,2,none⟩ (.slice ta r1 tc)).setCell ⟨wa.heap.size,3,none⟩ (.int .i64 (c1:Int))).cell? ⟨p,0,none⟩=some (.slice ta r1 tc)/\((Q.setCell ⟨wa.heap.size,2,none⟩ (.slice ta r1 tc)).setCell ⟨wa.heap.size,3,none⟩ (.int .i64 (c1:Int))).cell? ⟨p,1,none⟩=some (.int .i64 (c1:Int)):=⟨by simp[World.cell?,hpS],by simp[World.cell?,hpS]⟩
      have HQ:=hid hQ
      clear hp hown bx hpl hpQ hbQ bQ hoQ hne bS hpS hb0 s0 hkl KB hQ hS0 HA0 bA0 o00
      go_wp2_with fail
      refine Gz (S:=fun w'=>w'.cell? ⟨p,0,none⟩=some (.slice ta r1 tc)/\w'.cell? ⟨p,1,none⟩=some (.int .i64 (c1:Int))) (by rw[<- HQ.out];exact hS3) (fun hSS=>?_)
      rw[<- HQ.out]at hSS ⊢
      refine Ti 0 rfl ?_
      refine Ti 1 rfl ?_
      refine Ti 2 rfl ?_
      try simp only[Act.put,zA,zB,zC]
      refine Ti 3 rfl ?_
      refine Ti 4 rfl ?_
      refine Ti 5 rfl ?_
      try simp only[Act.put,zA,zB,zC]
      refine Ri 6 rfl (fun K9 hK9=>?_)
      go_simp
      refine hK9.out _ _ hS4 (fun hSS=>?_)
      try simp only[Act.put,zA,zB,zC]
      refine Dn ?_
      clear hSS hS3 hS4 e0 e1 g0 g1 HQ
      go_wp2_with fail
      go_roundw
      case rel=>exact⟨2,by decide,by go_num,.inr (.inr ⟨rfl,tv0,_,FB.out,FK.out,FP.out.1,FO.out,FP.out.2⟩)⟩
      case measure=>simp[intOf]
    ·subst hq
     obtain⟨tv0,tv1,bo,hb,o0,o1,hne⟩:=hR
     have FIN:=hid (HFF.out _ tv0 tv1 wo rfl bo hb ⟨o0,o1,hne⟩)
     clear bo hb o0 o1 hne HFF HN0 HN1 HS0 HS1
     go_wp2
     refine bodyPost_ret (results_tmp3 rfl _ _ _) rfl ?_
     simpa using FIN.out
end Go.Proofs.YtlefjidbpjkhlaaGreat
