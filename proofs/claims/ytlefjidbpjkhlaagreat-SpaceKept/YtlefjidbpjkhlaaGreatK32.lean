import Derived.Test.YtlefjidbpjkhlaaGreatK19
import Derived.Test.YtlefjidbpjkhlaaGreatK31
import Derived.Test.YtlefjidbpjkhlaaGreatK11
set_option maxRecDepth 100000
set_option maxHeartbeats 16000000
namespace Go.Proofs.YtlefjidbpjkhlaaGreat
variable {B K N f i m n r st t x:Nat}
variable {X Y:Nat->Prop}
variable {W W' w:World}
variable {P:Program}
variable {α:Type}
variable {Q:Exit->Act->World->Prop}
variable {lf:Int}
variable {PO:Ending->World->Prop}
variable {F:Cf}
variable {C:Nat->List Int}
variable {L:Nat->Option (List Int)}
variable {Ms:List (Nat->Option (List Int))}
open Go.RowKit
structure Dl2 (B:Nat) (W W':World):Prop where
 d:W'.heap[B]?=W.heap[B]?
 l:W'.heap[B+1]?=W.heap[B+1]?
theorem Dl2.refl(B:Nat)(W:World):Dl2 B W W:=⟨rfl,rfl⟩
theorem Dl2.trans{X Y Z:World}(h:Dl2 B X Y)(k:Dl2 B Y Z):Dl2 B X Z:=⟨k.d.trans h.d,k.l.trans h.l⟩
theorem Dl2.of_but(h:But X W W')(hl:B+1<W.heap.size)(h1:¬X B)(h2:¬X (B+1)):Dl2 B W W':=⟨h.block B (by omega) h1,h.block (B+1) hl h2⟩
theorem Dl2.of_below(h:Below n W W')(hl:B+1<n):Dl2 B W W':=⟨h.block B (by omega),h.block (B+1) hl⟩
theorem but_put(W:World)(r:Nat)(o:Obj):But (fun k=>k=r) W (W.putObj r o):=⟨rfl,rfl,rfl,by simp,fun k _ hk=>World.putObj_heap_other hk⟩
def rfPost {α:Type} (B:Nat) (I:List α->World->Prop) (Ix:Code->List α->World->Prop) (xs:List α) (W:World):Exit->Act->World->Prop
 | .normal,_,W'=>Dl2 B W W'/\I xs W'
 | .ret,_,W'=>Dl2 B W W'/\Ix .ret xs W'
 | .exit id,_,W'=>Dl2 B W W'/\Ix (.exit id) xs W'
 | .goto t,_,W'=>Dl2 B W W'/\Ix (.goto t) xs W'
 | .panic _,_,_=>False
 | .outgrown,_,_=>False
def RfY {α:Type} (F:Fence) (m:Nat) (P:Program) (B N:Nat) (encs:α->Array Value) (I:List α->World->Prop) (Ix:Code->List α->World->Prop) (R:World->Prop) (Rx:Code->World->Prop):Prop :=
 ∀pre x A,I pre A->R A->pre.length<N->YieldAt F m P (B+1) (encs x) A fun e A'=>(e=.returned (.bool true)/\I (pre++[x]) A'/\R A')\/(e=.returned (.bool false)/\∃c,Ix c (pre++[x]) A'/\Rx c A')
def RfIt {α:Type} (F:Fence) (n:Nat) (P:Program) (gf:Nat) (lb:Array Value) (B N:Nat) (encs:α->Array Value) (S Sp:List α->Prop) (I:List α->World->Prop) (Ix:Code->List α->World->Prop) (w:World):Prop :=
 ∀(R:World->Prop) (Rx:Code->World->Prop) (W:World),(∀A A',R A->Dl2 B A A'->R A')->(∀c A A',Rx c A->Dl2 B A A'->Rx c A')->(∀A,R A->B+1<A.heap.size)->(∀c A,Rx c A->B+1<A.heap.size) ->
  RfY F (n-1) P B N encs I Ix R Rx->I [] W->R W->Below B w W ->
  CallsIn F n P gf (#[.func (.yield (B+1)) #[] #[]]++lb) W fun e W'=>(∃v,e=.returned v)/\((∃xs,S xs/\I xs W'/\R W')\/(∃pre c,Sp pre/\Ix c pre W'/\Rx c W'))
theorem rfLaw {F:Fence} {g:Operand} {ps:Array Tmp} {assign body:Code} {a:Act} 
  (hro:F.round=none) (h1:1<=n) {gf:Nat} {lb:Array Value} (hg:a.eval g=.func (.func gf) #[] lb) (hFg:F.fn gf) (eg:∀args w,(callFunc gf args).run P w=.ok (.enter gf args) w)
  {encs:α->Array Value} {S Sp:List α->Prop} (hps:∀x,(encs x).size=ps.size)
  (I:List α->World->Prop) (Ix:Code->List α->World->Prop) (hI:∀s W o,w.heap.size+1<W.heap.size->I s W->I s (W.putObj (w.heap.size+1) o)) (hIx:∀c s W o,w.heap.size+1<W.heap.size->Ix c s W->Ix c s (W.putObj (w.heap.size+1) o)) (h0:∀o1 o2,I [] ((w.alloc o1).alloc o2))
  (Ax:List α->α->Act->World->Prop) (hAx:∀pre x a' W o,w.heap.size+1<W.heap.size->Ax pre x a' W->Ax pre x a' (W.putObj (w.heap.size+1) o))
  (hit:RfIt F (n-1) P gf lb w.heap.size N encs S Sp I Ix w)
  (hassign:∀(l:Nat) (pre:List α) (x:α) (W:World) (K:Act->World->Prop),w.heap.size+1<W.heap.size->I pre W->pre.length<N->(∀a' W',Dl2 w.heap.size W W'->Ax pre x a' W'->K a' W') ->
   assign.wpIn (F.inRound l) (n-1-1) P (Exit.then K (fun _ _ _=>False)) { tmps:=(ps.zip (encs x)).foldl (fun t (p,v)=>t.setIfInBounds p v) a.tmps,defers:=[] } W)
  (hbody:∀(l:Nat) (pre:List α) (x:α) (a':Act) (W:World),w.heap.size+1<W.heap.size->Ax pre x a' W->pre.length<N->body.wpIn (F.inRound l) (n-1-1) P (rfPost w.heap.size I Ix (pre++[x]) W) a' W)
  (hdone:∀(D:Nat) (xs:List α) (W:World),w.heap.size=D->S xs->I xs W->W.heap[D]?=some (.deferred (some []))->Q .normal { a with defers:={ target:=.collected D,args:=#[] } :: a.defers } W)
  (hstop:∀(D:Nat) (c:Code) (pre:List α) (W:World),w.heap.size=D->Sp pre->Ix c pre W->W.heap[D]?=some (.deferred (some []))->c.wpIn F n P Q { a with defers:={ target:=.collected D,args:=#[] } :: a.defers } W) :
  (Code.rangeFunc g ps assign body).wpIn F n P Q a w:=by
 refine wpIn_rangeFunc fun fn hfn=>?_
 rw[hro]
 generalize hB:w.heap.size=B at *
 obtain⟨lp,hlp⟩:∃lp:LoopState->Option Code->Obj,lp=fun st pe=>.loop { state:=st,pending:=pe,fn,tmps:=a.tmps,params:=ps,assign,body,defers:=B }:=⟨_,rfl⟩
 obtain⟨R,hR⟩:∃R:World->Prop,R=fun A=>A.heap[B+1]?=some (lp .ready none)/\A.heap[B]?=some (.deferred (some [])):=⟨_,rfl⟩
 obtain⟨Rx,hRx⟩:∃Rx:Code->World->Prop,Rx=fun c A=>A.heap[B+1]?=some (lp .done (some c))/\A.heap[B]?=some (.deferred (some [])):=⟨_,rfl⟩
 obtain⟨W1,hW1⟩:∃W1,W1=(w.alloc (.deferred (some []))).alloc (lp .ready none):=⟨_,rfl⟩
 have hs1:W1.heap.size=B+2:=by rw[hW1];simp only[World.size_alloc];omega
 have hR1:R W1:=by
  rw[hR,hW1]
  refine⟨?_,?_⟩
  ·have:=World.alloc_heap_new (w.alloc (.deferred (some []))) (lp .ready none)
   rwa [World.size_alloc,hB]at this
  ·rw[<- hB]
   exact (Below.heap_alloc _ _ _ (by simp)).trans (World.alloc_heap_new w _)
 have hI1:I [] W1:=by rw[hW1];exact h0 _ _
 have hb1:Below B w W1:=by
  rw[hW1,<- hB]
  exact ((Below.refl _ w).alloc (Nat.le_refl _) _).alloc (by simp) _
 have hRl:∀A,R A->B+1<A.heap.size:=fun A q=>by
  rw[hR]at q
  exact (Array.getElem?_eq_some_iff.1 q.1).1
 have hRxl:∀c A,Rx c A->B+1<A.heap.size:=fun c A q=>by
  rw[hRx]at q
  exact (Array.getElem?_eq_some_iff.1 q.1).1
 refine⟨B+1,[{ target:=.collected B,args:=#[] }],W1,{ target:=.fn (.func gf) lb,args:=#[.func (.yield (B+1)) #[] #[]] },W1,gf,#[.func (.yield (B+1)) #[] #[]]++lb,W1,?_,?_,?_,?_,fun _=>h1,?_⟩
 ·rw[hW1,hlp,<- hB]
  exact run_enterLoop_outer _ _ _ _ _
 ·simp only[resolve,hg]
  simp[go_sem]
 ·intro f' hf'
  simp[Target.leads]at hf'
  subst hf'
  exact hFg
 ·simp[invoke,go_sem,eg]
 ·refine (hit R Rx W1 (fun A A' q t=>?_) (fun c A A' q t=>?_) hRl hRxl (fun pre x A hi hr hlen=>?_) hI1 hR1 hb1).mono ?_
  ·rw[hR]at q ⊢
   exact⟨t.l.trans q.1,t.d.trans q.2⟩
  ·rw[hRx]at q ⊢
   exact⟨t.l.trans q.1,t.d.trans q.2⟩
  ·have hlt:=hRl A hr
   rw[hR]at hr
   obtain⟨hl,hk⟩:=hr
   have hl':=hl
   rw[hlp]at hl'
   refine⟨fn,_,assign,body,run_yield (P:=P) (args:=encs x) hl' (hps x),roundIn_of_wpIn hfn (hassign _ pre x A _ hlt hi hlen fun a1 A1 t1 ax=>?_)⟩
   have hl1:A1.heap[B+1]?=some (lp .ready none):=t1.l.trans hl
   have hl1':=hl1
   rw[hlp]at hl1'
   have hlt1:=(Array.getElem?_eq_some_iff.1 hl1).1
   refine⟨_,run_beginRound hl1' rfl,?_⟩
   obtain⟨A2,hA2⟩:∃A2,A2=A1.putObj (B+1) (lp .busy none):=⟨_,rfl⟩
   have e2:A1.putObj (B+1) (.loop { state:=.busy,pending:=none,fn,tmps:=a.tmps,params:=ps,assign,body,defers:=B })=A2:=by rw[hA2,hlp]
   rw[e2]
   have hs2:A2.heap.size=A1.heap.size:=by rw[hA2];simp
   have hl2:A2.heap[B+1]?=some (lp .busy none):=by rw[hA2];exact World.putObj_heap_same hlt1
   have hk2:A2.heap[B]?=some (.deferred (some [])):=by
    rw[hA2]
    exact (World.putObj_heap_other (by omega)).trans (t1.d.trans hk)
   have ax2:Ax pre x a1 A2:=by rw[hA2];exact hAx pre x a1 _ _ hlt1 ax
   refine wpIn_mono (hbody _ pre x a1 A2 (by omega) ax2 hlen) ?_
   have fin:∀(jump:Option Code) (A3:World),Dl2 B A2 A3->∃A4,(Instr.endRound (B+1) jump).run P A3=.ok (.bool jump.isNone) A4/\A4=A3.putObj (B+1) (lp (if jump.isNone then .ready else .done) jump)/\A3.heap[B+1]?=some (lp .busy none)/\A4.heap[B+1]?=some (lp (if jump.isNone then .ready else .done) jump)/\A4.heap[B]?=some (.deferred (some [])):=fun jump A3 t3=>by
    have hl3:A3.heap[B+1]?=some (lp .busy none):=t3.l.trans hl2
    have hl3':=hl3
    rw[hlp]at hl3'
    refine⟨_,run_endRound (P:=P) jump hl3',?_,hl3,?_,?_⟩
    ·rw[hlp]
    ·rw[hlp]
     exact World.putObj_heap_same (Array.getElem?_eq_some_iff.1 hl3).1
    ·exact (World.putObj_heap_other (by omega)).trans (t3.d.trans hk2)
   rintro e a3 A3 hp
   cases e with
   | normal=>
    obtain⟨t3,hi3⟩:=hp
    obtain⟨A4,f1,f2,f3,f4,f5⟩:=fin none A3 t3
    refine⟨_,_,f1,.inl ⟨rfl,?_,?_⟩⟩
    ·rw[f2]
     exact hI _ _ _ (Array.getElem?_eq_some_iff.1 f3).1 hi3
    ·rw[hR]
     exact⟨f4,f5⟩
   | ret=>
    obtain⟨t3,hi3⟩:=hp
    obtain⟨A4,f1,f2,f3,f4,f5⟩:=fin (some .ret) A3 t3
    refine⟨_,_,f1,.inr ⟨rfl,.ret,?_,?_⟩⟩
    ·rw[f2]
     exact hIx _ _ _ _ (Array.getElem?_eq_some_iff.1 f3).1 hi3
    ·rw[hRx]
     exact⟨f4,f5⟩
   | exit id=>
    obtain⟨t3,hi3⟩:=hp
    obtain⟨A4,f1,f2,f3,f4,f5⟩:=fin (some (.exit id)) A3 t3
    refine⟨_,_,f1,.inr ⟨rfl,.exit id,?_,?_⟩⟩
    ·rw[f2]
     exact hIx _ _ _ _ (Array.getElem?_eq_some_iff.1 f3).1 hi3
    ·rw[hRx]
     exact⟨f4,f5⟩
   | goto t=>
    obtain⟨t3,hi3⟩:=hp
    obtain⟨A4,f1,f2,f3,f4,f5⟩:=fin (some (.goto t)) A3 t3
    refine⟨_,_,f1,.inr ⟨rfl,.goto t,?_,?_⟩⟩
    ·rw[f2]
     exact hIx _ _ _ _ (Array.getElem?_eq_some_iff.1 f3).1 hi3
    ·rw[hRx]
     exact⟨f4,f5⟩
   | panic ch=>exact hp.elim
   | outgrown=>exact hp.elim
  ·rintro e W2 ⟨⟨v,rfl⟩,(⟨xs,hS,hi,hr⟩ | ⟨pre,c,hSp,hi,hr⟩)⟩
   ·rw[hR]at hr
    have hl':=hr.1
    rw[hlp]at hl'
    refine⟨none,_,run_endLoop (P:=P) hl' (by simp),hdone B xs _ rfl hS (hI _ _ _ (Array.getElem?_eq_some_iff.1 hl').1 hi) ((World.putObj_heap_other (by omega)).trans hr.2)⟩
   ·rw[hRx]at hr
    have hl':=hr.1
    rw[hlp]at hl'
    refine⟨some c,_,run_endLoop (P:=P) hl' (by simp),hstop B c pre _ rfl hSp (hIx c _ _ _ (Array.getElem?_eq_some_iff.1 hl').1 hi) ((World.putObj_heap_other (by omega)).trans hr.2)⟩
open Go.RowKit Go.Deep
def BoC (w:World) (x f r st t m:Nat) (sz lf:Int) (b:Bool) (PO:Ending->World->Prop):Prop :=
 ∀w0,w0=((w.alloc (.cells #[.pointer (some ⟨x,0,none⟩),.int .i64 sz,.int .i64 lf,.pointer (some ⟨t,0,none⟩)] 103)).alloc (.cells #[.pointer (some ⟨st,0,none⟩),.bool b] 164)).drew->(w0.cell? ⟨w.heap.size,0,none⟩=some (.pointer (some ⟨x,0,none⟩))/\w0.cell? ⟨w.heap.size,3,none⟩=some (.pointer (some ⟨t,0,none⟩))/\w0.cell? ⟨x,0,none⟩=some (.int .i64 (f:Int))/\w0.cell? ⟨x,1,none⟩=some (.int .i64 (r:Int)))/\Calls Tryz.prog 87 #[.agg #[.int .i64 (f:Int),.int .i64 (r:Int)],.iface 101 (.agg #[.pointer (some ⟨t,0,none⟩)]),.int .i64 (m:Int)] w0 fun e w1=>∃g cp,e=.returned (.tuple #[.slice (some ⟨g,0,none⟩) 512 cp,.int .i64 0])/\(w1.cell? ⟨w.heap.size,0,none⟩=some (.pointer (some ⟨x,0,none⟩))/\w1.cell? ⟨w.heap.size,3,none⟩=some (.pointer (some ⟨t,0,none⟩))/\w1.cell? ⟨x,0,none⟩=some (.int .i64 (f:Int))/\w1.cell? ⟨x,1,none⟩=some (.int .i64 (r:Int))) /\
  ∀w2,w2=w1.drew->(w2.cell? ⟨w.heap.size,0,none⟩=some (.pointer (some ⟨x,0,none⟩))/\w2.cell? ⟨x,0,none⟩=some (.int .i64 (f:Int))/\w2.cell? ⟨x,1,none⟩=some (.int .i64 (r:Int))/\w2.cell? ⟨w.heap.size+1,0,none⟩=some (.pointer (some ⟨st,0,none⟩))/\w2.cell? ⟨w.heap.size+1,1,none⟩=some (.bool b))/\Calls Tryz.prog 87 #[.agg #[.int .i64 (f:Int),.int .i64 (r:Int)],.iface 164 (.agg #[.pointer (some ⟨st,0,none⟩),.bool b]),.int .i64 (m:Int)] w2 fun e w3=>∃g2 cp2,e=.returned (.tuple #[.slice (some ⟨g2,0,none⟩) 512 cp2,.int .i64 0])/\(w3.cell? ⟨w.heap.size,0,none⟩=some (.pointer (some ⟨x,0,none⟩))/\w3.cell? ⟨x,0,none⟩=some (.int .i64 (f:Int))/\w3.cell? ⟨x,1,none⟩=some (.int .i64 (r:Int))/\w3.cell? ⟨w.heap.size+1,0,none⟩=some (.pointer (some ⟨st,0,none⟩))/\w3.cell? ⟨w.heap.size+1,1,none⟩=some (.bool b))/\PO (.returned (.tuple #[.slice (some ⟨g,0,none⟩) 512 cp,.slice (some ⟨g2,0,none⟩) 512 cp2,.int .i64 0])) w3
theorem both_walk{sz:Int}{b:Bool}(H:BoC w x f r st t m sz lf b PO) :
  Calls Tryz.prog 146 #[.agg #[.pointer (some ⟨x,0,none⟩),.int .i64 sz,.int .i64 lf,.pointer (some ⟨t,0,none⟩)],.agg #[.pointer (some ⟨st,0,none⟩),.bool b],.int .i64 (m:Int)] w PO:=by
 obtain⟨w0,hw0⟩:∃w0,w0=((w.alloc (.cells #[.pointer (some ⟨x,0,none⟩),.int .i64 sz,.int .i64 lf,.pointer (some ⟨t,0,none⟩)] 103)).alloc (.cells #[.pointer (some ⟨st,0,none⟩),.bool b] 164)).drew:=⟨_,rfl⟩
 obtain⟨kS,h1⟩:=H w0 hw0
 have H1:=hid h1
 have HW:=hid hw0
 rw[hw0]at kS
 clear H h1 hw0
 go_enter Tryz.func146,Tryz.ntmps146
 go_wp2_with fail
 refine Gz (S:=fun w'=>w'.cell? ⟨w.heap.size,0,none⟩=some (.pointer (some ⟨x,0,none⟩))/\w'.cell? ⟨w.heap.size,3,none⟩=some (.pointer (some ⟨t,0,none⟩))/\w'.cell? ⟨x,0,none⟩=some (.int .i64 (f:Int))/\w'.cell? ⟨x,1,none⟩=some (.int .i64 (r:Int))) kS (fun hSS=>?_)
 refine Ti 0 rfl ?_
 refine Ti 1 rfl ?_
 refine Ti 2 rfl ?_
 refine Ti 3 rfl ?_
 refine Ti 4 rfl ?_
 refine Ti 5 rfl ?_
 try simp only[Act.put,zA,zB,zC]
 refine Ti 6 rfl ?_
 refine Ti 7 rfl ?_
 refine Ti 8 rfl ?_
 try simp only[Act.put,zA,zB,zC]
 refine Ri 9 rfl (fun K9 hK9=>?_)
 go_simp
 go_at_call 87
 rw[<- HW.out]
 refine Calls.mono H1.out ?_
 rintro e w1 ⟨g,cp,rfl,hk1,h2⟩
 obtain⟨kT,h3⟩:=h2 _ rfl
 have H3:=hid h3
 clear h2 h3 H1 HW
 refine hK9.out _ _ hk1 (fun hSS=>?_)
 try simp only[Act.put,zA,zB,zC]
 refine Ti 10 rfl ?_
 refine Ti 11 rfl ?_
 refine Ti 12 rfl ?_
 refine Ti 13 rfl ?_
 try simp only[Act.put,zA,zB,zC]
 refine Ti 14 rfl ?_
 try simp only[Act.put,zA,zB,zC]
 refine Dn ?_
 clear hSS kS hk1
 go_wp2_with fail
 refine Gz (S:=fun w'=>w'.cell? ⟨w.heap.size,0,none⟩=some (.pointer (some ⟨x,0,none⟩))/\w'.cell? ⟨x,0,none⟩=some (.int .i64 (f:Int))/\w'.cell? ⟨x,1,none⟩=some (.int .i64 (r:Int))/\w'.cell? ⟨w.heap.size+1,0,none⟩=some (.pointer (some ⟨st,0,none⟩))/\w'.cell? ⟨w.heap.size+1,1,none⟩=some (.bool b)) kT (fun hSS=>?_)
 refine Ti 0 rfl ?_
 refine Ti 1 rfl ?_
 refine Ti 2 rfl ?_
 refine Ti 3 rfl ?_
 refine Ti 4 rfl ?_
 refine Ti 5 rfl ?_
 try simp only[Act.put,zA,zB,zC]
 refine Ti 6 rfl ?_
 refine Ti 7 rfl ?_
 try simp only[Act.put,zA,zB,zC]
 refine Ri 8 rfl (fun K9 hK9=>?_)
 go_simp
 go_at_call 87
 refine Calls.mono H3.out ?_
 rintro e w3 ⟨g2,cp2,rfl,hk3,hF⟩
 have FIN:=hid hF
 clear hF H3
 refine hK9.out _ _ hk3 (fun hSS=>?_)
 try simp only[Act.put,zA,zB,zC]
 refine Ti 9 rfl ?_
 refine Ti 10 rfl ?_
 refine Ti 11 rfl ?_
 refine Ti 12 rfl ?_
 refine Ti 13 rfl ?_
 try simp only[Act.put,zA,zB,zC]
 refine Dn ?_
 clear hSS kT hk3
 go_wp2
 go_ret3
 exact FIN.out
theorem heap2(w:World)(a b:Obj):((w.alloc a).alloc b).heap[w.heap.size]?=some a/\((w.alloc a).alloc b).heap[w.heap.size+1]?=some b:=by
 show ((w.heap.push a).push b)[w.heap.size]?=some a/\((w.heap.push a).push b)[w.heap.size+1]?=some b
 simp only[Array.getElem?_push,Array.size_push]
 refine⟨?_,?_⟩
 ·rw[if_neg (by omega),if_pos trivial]
 ·rw[if_pos trivial]
def BoP (Y:Nat->Prop) (w:World) (z1 z2:List Int) (X:(Nat->Prop)->World->Prop) (e:Ending) (w':World):Prop :=
 ∃g cp g2 cp2 Y',e=.returned (.tuple #[.slice (some ⟨g,0,none⟩) 512 cp,.slice (some ⟨g2,0,none⟩) 512 cp2,.int .i64 0])/\X Y' w'/\(w.heap.size<=g/\w.heap.size<=g2/\g≠g2)/\(Own w' g 512 cp z1/\Pl.isB z1/\¬Y' g)/\(Own w' g2 512 cp2 z2/\Pl.isB z2/\¬Y' g2)/\Gr Y Y' w/\But Y w w'
theorem Opn.both(h:Opn Y w F K N C t L Ms n)(hK:K+1<4611686018427387904)(hx:Spb w x f r F.st)(hY:¬Y x)(sz lf:Int)(b:Bool)(m:Nat)(hr:r<=262144)(hm:m<=1024)(hf1:64<=f+m)(hf2:f+m<F.nb)(hp:isPg r m ((L (f+m)).getD (C (f+m)))=true) :
  Calls Tryz.prog 146 #[.agg #[.pointer (some ⟨x,0,none⟩),.int .i64 sz,.int .i64 lf,.pointer (some ⟨t,0,none⟩)],.agg #[.pointer (some ⟨F.st,0,none⟩),.bool b],.int .i64 (m:Int)] w (BoP Y w ((L (f+m)).getD (C (f+m))) (cpg b r m (C (f+m))) (fun Y' w'=>Opn Y' w' F (K+2) N C t L Ms n)):=by
 refine both_walk (f:=f) (r:=r) (fun w0 hw0=>?_)
 have hxl:=hx.lt
 have hlt:=h.lt
 have z0:w0.heap.size=w.heap.size+2:=by rw[hw0];simp
 have b0:Below w.heap.size w w0:=by rw[hw0];exact (((Below.refl _ _).alloc (Nat.le_refl _) _).alloc (by simp) _).drew
 have hv0:w0.heap[w.heap.size]?=some (.cells #[.pointer (some ⟨x,0,none⟩),.int .i64 sz,.int .i64 lf,.pointer (some ⟨t,0,none⟩)] 103 (0,0)):=by rw[hw0];exact (heap2 _ _ _).1
 have hc0:w0.heap[w.heap.size+1]?=some (.cells #[.pointer (some ⟨F.st,0,none⟩),.bool b] 164 (0,0)):=by rw[hw0];exact (heap2 _ _ _).2
 have hx0:Spb w0 x f r F.st:=hx.keep (b0.block x hxl)
 refine⟨⟨by simp[World.cell?,hv0],by simp[World.cell?,hv0],hx0.cell 0,hx0.cell 1⟩,?_⟩
 refine Calls.mono ((h.below b0).pageS (by omega) f r m hr hm hf1 hf2) ?_
 rintro e w1 ⟨Y1,k1,k2,_,k4,k5⟩
 obtain⟨g,cp,rfl,k6,k7,k8,k9⟩:=k2 hp
 have s1:=k5.size
 have keep1:∀k,k<w0.heap.size->w.heap.size<=k->w1.heap[k]?=w0.heap[k]?:=fun k a b=>k5.block k a (fun q=>by have:=hlt _ q;omega)
 have hx1:Spb w1 x f r F.st:=hx0.keep (k5.block x hx0.lt hY)
 have hv1:=(keep1 w.heap.size (by omega) (by omega)).trans hv0
 have hc1:=(keep1 (w.heap.size+1) (by omega) (by omega)).trans hc0
 refine⟨g,cp,rfl,⟨by simp[World.cell?,hv1],by simp[World.cell?,hv1],hx1.cell 0,hx1.cell 1⟩,fun w2 hw2=>?_⟩
 have b2:Below w1.heap.size w1 w2:=by rw[hw2];exact Below.drew1 w1
 have s2:w2.heap.size=w1.heap.size:=by rw[hw2];rfl
 have hx2:Spb w2 x f r F.st:=hx1.keep (b2.block x hx1.lt)
 have hv2:=(b2.block w.heap.size (by omega)).trans hv1
 have hc2:=(b2.block (w.heap.size+1) (by omega)).trans hc1
 have nY1:¬Y1 x:=fun q=>hY (k4 x (by omega) q)
 refine⟨⟨by simp[World.cell?,hv2],hx2.cell 0,hx2.cell 1,by simp[World.cell?,hc2],by simp[World.cell?,hc2]⟩,?_⟩
 refine Calls.mono ((k1.below b2).pageC (by omega) b f r m hr hm hf1 hf2) ?_
 rintro e w3 ⟨g2,cp2,Y3,rfl,m1,m2,m3,m4,m5,m6,m7⟩
 have s3:=m7.size
 have l1:=k1.lt
 have keep3:∀k,k<w2.heap.size->¬Y1 k->w3.heap[k]?=w2.heap[k]?:=fun k a b=>m7.block k a b
 have nYv:¬Y1 w.heap.size:=fun q=>by
  have:=hlt _ (k4 _ (by omega) q)
  omega
 have nYc:¬Y1 (w.heap.size+1):=fun q=>by
  have:=hlt _ (k4 _ (by omega) q)
  omega
 have hx3:Spb w3 x f r F.st:=hx2.keep (keep3 x hx2.lt nY1)
 have hv3:=(keep3 w.heap.size (by omega) nYv).trans hv2
 have hc3:=(keep3 (w.heap.size+1) (by omega) nYc).trans hc2
 refine⟨g2,cp2,rfl,⟨by simp[World.cell?,hv3],hx3.cell 0,hx3.cell 1,by simp[World.cell?,hc3],by simp[World.cell?,hc3]⟩,?_⟩
 have k7':Own w3 g 512 cp ((L (f+m)).getD (C (f+m))):=(k7.keep (b2.block g k7.lt)).keep (keep3 g (by have:=k7.lt;omega) k9)
 have gg:Gr Y Y3 w:=fun k hk q=>k4 k (by omega) (m6 k (by omega) q)
 have bb:But Y w w3:=(((But.of_below b0 (X:=Y)).trans k5).comp (But.of_below b2 (X:=fun _=>False)) (fun _ _ q=>q.elim)).comp m7 (fun k hk q=>k4 k (by omega) q)
 exact⟨g,cp,g2,cp2,Y3,rfl,m1,⟨by omega,by omega,by have:=k7.lt;omega⟩,⟨k7',k8,fun q=>k9 (m6 g (by have:=k7.lt;omega) q)⟩,⟨m3,m4,m5⟩,gg,bb⟩
open Go.RowKit Go.Deep
def whl (C:Nat->List Int) (f r:Nat):Bool:=(List.range (pagesN r)).all (fun i=>isPg r i (C (f+i)))
theorem whl_no(hi:i<pagesN r)(h:isPg r i (C (f+i))=false):whl C f r=false:=by
 unfold whl
 rw[List.all_eq_false]
 exact⟨i,List.mem_range.2 hi,by rw[h];decide⟩
theorem whl_yes(h:∀i,i<pagesN r->isPg r i (C (f+i))=true):whl C f r=true:=by
 unfold whl
 rw[List.all_eq_true]
 exact fun i hi=>h i (List.mem_range.1 hi)
theorem Opn.isWhole(h:Opn Y w F K N C t L Ms n)(hx:Spb w x f r F.st)(hY:¬Y x)(sz lf:Int)(hr:r<=262144)(hK:K+pagesN r<4611686018427387904)(h1:64<=f)(h2:f+pagesN r<=F.nb) :
  Calls Tryz.prog 184 #[.agg #[.pointer (some ⟨x,0,none⟩),.int .i64 sz,.int .i64 lf,.pointer (some ⟨t,0,none⟩)]] w fun e w'=>∃K' Y',e=.returned (.tuple #[.bool (whl C f r),.int .i64 0])/\K'<=K+pagesN r/\Opn Y' w' F K' N C t L Ms n/\Gr Y Y' w/\But Y w w':=by
 refine poz fun PO hPO=>?_
 obtain⟨w0,hw0⟩:∃w0,w0=w.alloc (.cells #[.pointer (some ⟨x,0,none⟩),.int .i64 sz,.int .i64 lf,.pointer (some ⟨t,0,none⟩)] 103):=⟨_,rfl⟩
 obtain⟨vb,hvb⟩:∃vb,vb=w.heap.size:=⟨_,rfl⟩
 have z0:w0.heap.size=w.heap.size+1:=by rw[hw0];simp
 have b0:Below w.heap.size w w0:=by rw[hw0];exact (Below.refl _ _).alloc (Nat.le_refl _) _
 have hblk:w0.heap[vb]?=some (.cells #[.pointer (some ⟨x,0,none⟩),.int .i64 sz,.int .i64 lf,.pointer (some ⟨t,0,none⟩)] 103 (0,0)):=by rw[hw0,hvb];exact Array.getElem?_push_size
 have hlt:=h.lt
 have hnb:=h.nb
 have hpg:=pagesN_le hr
 have hx0:Spb w0 x f r F.st:=hx.keep (b0.block x hx.lt)
 have HC:Hid (∀wr,But Y w0 wr->wr.cell? ⟨vb,0,none⟩=some (.pointer (some ⟨x,0,none⟩))/\wr.cell? ⟨x,2,none⟩=some (.pointer (some ⟨F.st,0,none⟩))/\wr.cell? ⟨x,0,none⟩=some (.int .i64 (f:Int))/\wr.cell? ⟨x,1,none⟩=some (.int .i64 (r:Int))):=fun wr b=>by
  have hb2:=(b.block vb (by omega) (fun q=>by have:=hlt _ q;omega)).trans hblk
  have hx2:=hx0.keep (b.block x hx0.lt hY)
  exact⟨by simp[World.cell?,hb2],hx2.cell 2,hx2.cell 0,hx2.cell 1⟩
 have FIN:Hid (∀q wr Y' bb,bb=whl C f r->q<=pagesN r->Opn Y' wr F (K+q) N C t L Ms n->Gr Y Y' w0->But Y w0 wr->PO (.returned (.tuple #[.bool bb,.int .i64 0])) wr):=fun q wr Y' bb e hq q1 q2 q3=>by
  rw[hPO,e]
  exact⟨K+q,Y',rfl,by omega,q1,fun k hk q=>q2 k (by omega) q,(But.of_below b0 (X:=Y)).trans q3⟩
 have HS:Hid (Opn Y w0 F (K+0) N C t L Ms n):=h.below b0
 have HP:=hid (pages_any (f:Int) r hr w0)
 have HNO:Hid (∀q,q<pagesN r->isPg r q (C (f+q))=false->false=whl C f r):=fun q a b=>(whl_no a b).symm
 have HYES:Hid ((∀i,i<pagesN r->isPg r i (C (f+i))=true)->true=whl C f r):=fun q=>(whl_yes q).symm
 obtain⟨k0,k1,k2,k3⟩:=HC.out w0 (But.refl _ _)
 have HW:=hid hw0
 have HV:=hid hvb
 rw[hw0]at k0 k1 k2 k3
 rw[hvb]at k0
 generalize pagesN r=PN at *
 generalize whl C f r=WH at *
 clear hw0 b0 hblk hPO h hlt z0 hx hx0 hvb
 go_enter Tryz.func184,Tryz.ntmps184
 go_wp2_with fail
 rw[<- HW.out,<- HV.out]
 refine Calls.mono HP.out ?_
 rintro e w1 ⟨rfl,b1⟩
 have B1:=hid b1
 have HS1:=hid (HS.out.below b1)
 clear b1 HP HS k0 k1 k2 k3 HW
 go_wp2_with fail
 go_loopw [13] (fun iv wr=>∃q:Nat,q<=PN/\iv=.int .i64 (q:Int)/\(∀i,i<q->isPg r i (C (f+i))=true)/\(∃Y',Opn Y' wr F (K+q) N C t L Ms n/\Gr Y Y' w0)/\But Y w0 wr) (fun iv _=>PN-(intOf iv).toNat)
 case atStart=>exact⟨0,Nat.zero_le _,rfl,fun i hi=>absurd hi (by omega),⟨Y,HS1.out,Gr.refl _ _⟩,But.of_below B1.out⟩
 case round=>
  clear HS1 B1
  rename World=>wo
  obtain⟨q,hq,rfl,hall,⟨Y',hS,hG⟩,hB⟩:=hrel
  by_cases hqn:q<PN
  ·have hqn':(q:Int)<(PN:Int):=by omega
   have hd:But Y w0 wo.drew:=hB.drew
   have HR:Hid (Calls Tryz.prog 30 #[.pointer (some ⟨F.st,0,none⟩),.int .i64 ((f:Int)+(q:Int))] wo.drew fun e w'=>∃g cp,e=.returned (.tuple #[.slice (some ⟨g,0,none⟩) 512 cp,.int .i64 0])/\(w'.cell? ⟨vb,0,none⟩=some (.pointer (some ⟨x,0,none⟩))/\w'.cell? ⟨x,2,none⟩=some (.pointer (some ⟨F.st,0,none⟩))/\w'.cell? ⟨x,0,none⟩=some (.int .i64 (f:Int))/\w'.cell? ⟨x,1,none⟩=some (.int .i64 (r:Int)))/\Calls Tryz.prog 140 #[.agg #[.int .i64 (f:Int),.int .i64 (r:Int)],.slice (some ⟨g,0,none⟩) 512 cp,.int .i64 (q:Int)] w' fun e w2=>e=.returned (.bool (isPg r q (C (f+q))))/\(∃Y',Opn Y' w2 F (K+(q+1)) N C t L Ms n/\Gr Y Y' w0)/\But Y w0 w2):=by
    rw[show ((f:Int)+(q:Int))=((f+q:Nat):Int) by omega]
    refine Calls.mono ((hS.below (Below.drew1 wo)).sread (by omega) (f+q) (by omega) (by omega)) ?_
    rintro e w2 ⟨g,cp,Y2,rfl,r1,r2,r3,r4,r5,r6,r7⟩
    have hs:=hB.size
    have hB2:But Y w0 w2:=hd.comp r7 hG
    refine⟨g,cp,rfl,HC.out w2 hB2,Calls.mono (isPage_any (f:Int) hr (by omega) r3 r4) ?_⟩
    rintro e w3 ⟨rfl,b3⟩
    exact⟨rfl,⟨Y2,r1.below b3,hG.trans r6 hs⟩,hB2.comp (But.of_below b3 (X:=fun _=>False)) (fun _ _ q=>q.elim)⟩
   have kS:=HC.out wo.drew hd
   have HALL:=hid hall
   have hwr:IntKind.i64.wrap ((f:Int)+(q:Int))=(f:Int)+(q:Int):=by rw[IntKind.wrap_i64];omega
   clear hS hG hB hall hd
   go_wp2_with fail
   refine Gz (S:=fun w'=>w'.cell? ⟨vb,0,none⟩=some (.pointer (some ⟨x,0,none⟩))/\w'.cell? ⟨x,2,none⟩=some (.pointer (some ⟨F.st,0,none⟩))/\w'.cell? ⟨x,0,none⟩=some (.int .i64 (f:Int))/\w'.cell? ⟨x,1,none⟩=some (.int .i64 (r:Int))) kS (fun hSS=>?_)
   refine Ti 0 rfl ?_
   refine Ti 1 rfl ?_
   refine Ti 2 rfl ?_
   refine Ti 3 rfl ?_
   refine Ti 4 rfl ?_
   refine Ti 5 rfl ?_
   try simp only[Act.put,zA,zB,zC]
   refine Ti 6 rfl ?_
   refine Ti 7 rfl ?_
   refine Ti 8 rfl ?_
   refine Ti 9 rfl ?_
   refine Ti 10 rfl ?_
   refine Ti 11 rfl ?_
   try simp only[Act.put,zA,zB,zC]
   refine Ti 12 rfl ?_
   try simp only[Act.put,zA,zB,zC]
   refine Ri 13 rfl (fun K9 hK9=>?_)
   go_simp
   go_at_call 30
   refine Calls.mono HR.out ?_
   rintro e w2 ⟨g,cp,rfl,hk2,h3⟩
   have H3:=hid h3
   clear h3 HR
   refine hK9.out _ _ hk2 (fun hSS=>?_)
   try simp only[Act.put,zA,zB,zC]
   refine Ti 14 rfl ?_
   refine Ti 15 rfl ?_
   refine Ti 16 rfl ?_
   refine Ti 17 rfl ?_
   refine Ti 18 rfl ?_
   try simp only[Act.put,zA,zB,zC]
   refine Dn ?_
   clear hSS kS
   obtain⟨c0,c1,c2,c3⟩:=hk2
   go_wp2_with fail
   refine Calls.mono H3.out ?_
   rintro e w3 ⟨rfl,⟨Y3,q1,q2⟩,q3⟩
   have N1:=hid q1
   have N2:=hid q2
   have N3:=hid q3
   clear q1 q2 q3 H3 c0 c1 c2 c3
   have HN1:=hid (HNO.out q hqn)
   have HA2:Hid (isPg r q (C (f+q))=true->∀i,i<q+1->isPg r i (C (f+i))=true):=fun e i hi=>by
    rcases Nat.lt_or_ge i q with a | a
    ·exact HALL.out i a
    ·obtain rfl:i=q:=by omega
     exact e
   generalize isPg r q (C (f+q))=bq at *
   cases bq with
   | true=>
    have HA3:=hid (HA2.out rfl)
    clear HA2 HN1
    go_wp2_with fail
    go_roundw
    case rel=>exact⟨q+1,by omega,by go_num,HA3.out,⟨Y3,N1.out,N2.out⟩,N3.out⟩
    case measure=>simp[intOf];omega
   | false=>
    have FN:=hid (FIN.out (q+1) w3 Y3 false (HN1.out rfl) (by omega) N1.out N2.out N3.out)
    clear HA2 HN1 N1 N2 N3 FIN HALL
    go_wp2
    exact FN.out
  ·have hqn':¬(q:Int)<(PN:Int):=by omega
   have hqe:q=PN:=by omega
   subst hqe
   have FN:=hid (FIN.out q wo Y' true (HYES.out hall) (Nat.le_refl _) hS hG hB)
   clear hS hG hB FIN HC hall HNO HYES
   go_wp2
   exact FN.out
end Go.Proofs.YtlefjidbpjkhlaaGreat
