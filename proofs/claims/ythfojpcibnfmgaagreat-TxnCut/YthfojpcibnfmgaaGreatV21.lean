import Derived.Test.YthfojpcibnfmgaaGreatV20
import Derived.Test.YthfojpcibnfmgaaGreatV11
import Derived.RangeFuncNested
import Derived.RangeFuncBound
import Derived.RangeFuncCalls
import Derived.RangeFuncLeaves
import Derived.Shelf.Abstract
import Derived.Shelf.RegionOpen
import Derived.WalkKit
import Derived.OwnWalkIn
import Derived.TacticsInMore
import Derived.LoopNIn
import Derived.LoopIn
import Derived.Lib.SliceRun
import Derived.Deep.RegionLaw
set_option maxRecDepth 100000
set_option maxHeartbeats 16000000
namespace Go.Proofs.YthfojpcibnfmgaaGreat
variable {Bs cp e i j k m n nb ns q sb x y:Nat}
variable {w:World}
variable {mv sv:Value}
variable {β:Type}
variable {xs:List Value}
open Go.RowKit Go.Deep
theorem cnt_delX(a:Nat->Option Wr)(y n:Nat):cntX (back1 (y,none) a) n+(if y<n/\(a y).isSome then 1 else 0)=cntX a n:=by
 induction n with
 | zero=>simp[cntX]
 | succ n ih=>
  unfold cntX
  rw[<- ih]
  by_cases e:n=y
  ·subst e
   have h1:(back1 (n,none) a n).isSome=false:=by simp[back1]
   rw[h1]
   simp
  ·have h1:back1 (y,none) a n=a n:=by simp[back1,e]
   rw[h1]
   by_cases h2:y<n
   ·have h3:y<n+1:=by omega
    simp only[h2,h3,true_and]
    omega
   ·have h3:¬y<n+1:=by omega
    simp only[h2,h3,false_and,if_false]
    omega
theorem AMx.del{D:DataW Wr}{a:Nat->Option Wr}(h:AMx nb D a)(y:Nat)(hy:y<nb):AMx nb (D.del (.int .i64 (y:Int))) (back1 (y,none) a):=by
 have hs:=Maps.size_del (k:=.int .i64 (y:Int)) h.tidy
 have hc:=h.cnt
 have hcnt:=cnt_delX a y nb
 refine⟨h.tidy.del _,?_,fun z r hr=>?_,fun z hz=>?_⟩
 ·cases ha:a y with
  | some r=>
   rw[(h.hit y r ha).1]at hs
   simp[hy,ha]at hs hcnt
   omega
  | none=>
   have:Maps.has D (.int .i64 (y:Int))=false:=h.miss (y:Int) (fun z e=>by
    have:z=y:=by omega
    rw[this];exact ha)
   rw[this]at hs
   simp[ha]at hs hcnt
   omega
 ·have hzy:z≠y:=fun e=>by simp[back1,e]at hr
  have hne:(Lit.int .i64 (z:Int))≠.int .i64 (y:Int):=fun q=>hzy (by injection q with _ q;omega)
  have hr':a z=some r:=by simpa [back1,hzy] using hr
  exact⟨by rw[Maps.has_del_other hne];exact (h.hit z r hr').1,fun t=>by rw[Maps.atKey_del_other hne];exact (h.hit z r hr').2 t⟩
 ·by_cases e:z=(y:Int)
  ·rw[e];exact Maps.has_del_same
  ·have hne:(Lit.int .i64 z)≠.int .i64 (y:Int):=fun q=>e (by injection q)
   rw[Maps.has_del_other hne]
   refine h.miss z (fun t ht=>?_)
   have:=hz t ht
   have hty:t≠y:=fun q=>e (by omega)
   simpa [back1,hty] using this
def stepV (s:Sp):Value:=match s.2 with
 | none=>.iface 169 (.int .i64 (s.1:Int))
 | some r=>.iface 171 (.agg #[.int .i64 (s.1:Int),.slice (some ⟨r.1,0,none⟩) 512 r.2.1,.int .i64 r.2.2])
theorem ta_first(v:Value)(w:World):(Instr.typeAssert (.iface 169 v) 176 169 true).run Tryz.prog w=.ok (.tuple #[v,.bool true]) w:=by kernel_rfl
theorem ta_not(v:Value)(w:World):(Instr.typeAssert (.iface 171 v) 176 169 true).run Tryz.prog w=.ok (.tuple #[.int .i64 0,.bool false]) w:=by kernel_rfl
theorem ta_again(v:Value)(w:World):(Instr.typeAssert (.iface 171 v) 176 171 true).run Tryz.prog w=.ok (.tuple #[v,.bool true]) w:=by kernel_rfl
theorem block_any(y:Nat)(w:World):Calls Tryz.prog 125 #[.int .i64 (y:Int)] w fun e w'=>e=.returned (.int .i64 (y:Int))/\w'=w:=by
 go_enter Tryz.func125,Tryz.ntmps125
 go_wp2
 go_ret
 exact⟨rfl,rfl⟩
theorem takeBack_first{D:DataW Wr}{a:Nat->Option Wr}(hX:Xb w x j m sv mv)(hm:w.ownsMap Tryz.prog 3 wrElem m n D)(hA:AMx nb D a)(hy:y<nb)(hnb:nb<=524288) :
  Calls Tryz.prog 97 #[.pointer (some ⟨x,0,none⟩),.iface 169 (.int .i64 (y:Int))] w fun e w'=>e=.returned (.tuple #[])/\(∃D',w'.ownsMap Tryz.prog 3 wrElem m n D'/\AMx nb D' (back1 (y,none) a))/\But (fun k=>k=m) w w':=by
 obtain⟨PO,hPO⟩:∃PO:Ending->World->Prop,PO=fun e w'=>e=.returned (.tuple #[])/\(∃D',w'.ownsMap Tryz.prog 3 wrElem m n D'/\AMx nb D' (back1 (y,none) a))/\But (fun k=>k=m) w w':=⟨_,rfl⟩
 rw[<- hPO]
 have hkey:keyOf Tryz.prog 3 (.int .i64 (y:Int))=some (.int .i64 (y:Int)):=Maps.keyOf_int_mk Tryz.underlying3 (WalkArith.wf_i64 (by omega))
 have hxm:=mapW_ne hm hX
 have x1:=hX.cell 1
 simp at x1
 obtain⟨wU,hrun,hownU,hturn⟩:=World.ownsMap.drop (w:=w.drew) (mapW_keep hm rfl) law3 Tryz.underlying157 hkey 0
 have tb:But (fun k=>k=m) w wU:=(But.of_below (Below.refl w.heap.size w).drew (X:=fun k=>k=m)).comp (turned_but hturn) (fun _ _ q=>q)
 have u1:=(tb.cell (p:=⟨x,1,none⟩) hX.lt hxm).trans x1
 have FIN:Hid (PO (.returned (.tuple #[])) wU):=by
  rw[hPO]
  exact⟨rfl,⟨_,hownU,hA.del y hy⟩,tb⟩
 have HB:=hid block_any
 have ta:=ta_first
 clear hX hm hA hPO tb hownU hturn hkey hxm hy hnb
 go_enter Tryz.func97,Tryz.ntmps97
 go_wp2_with (simp only[ta])
 refine wp_region_noPanic ?_
 refine Gz (S:=fun w'=>w'.cell? ⟨x,1,none⟩=some (.map (some m))) x1 (fun hSS=>?_)
 refine Ti 0 rfl ?_
 refine Ti 1 rfl ?_
 refine Ti 2 rfl ?_
 refine Ti 3 rfl ?_
 try simp only[Act.put,zA,zB,zC]
 refine Ti 4 rfl ?_
 try simp only[Act.put,zA,zB,zC]
 refine Ri 5 rfl (fun K9 hK9=>?_)
 go_simp
 go_at_call 125
 refine Calls.mono (HB.out y _) ?_
 rintro e wb ⟨rfl,hwb⟩
 rw[hwb]
 clear hwb HB
 refine hK9.out _ _ x1 (fun hSS=>?_)
 try simp only[Act.put,zA,zB,zC]
 refine Ri 6 rfl (fun K9 hK9=>?_)
 go_simp
 refine hK9.out _ _ u1 (fun hSS=>?_)
 try simp only[Act.put,zA,zB,zC]
 refine Dn (NoPanic.normal ?_)
 clear hSS
 go_wp2
 go_end0
 exact FIN.out
theorem takeBack_again{g:Nat}{k:Int}{D:DataW Wr}{a:Nat->Option Wr}(hX:Xb w x j m sv mv)(hm:w.ownsMap Tryz.prog 3 wrElem m n D)(hA:AMx nb D a)(hn:n<=1073741823)(hy:y<nb)(hnb:nb<=524288) :
  Calls Tryz.prog 97 #[.pointer (some ⟨x,0,none⟩),.iface 171 (.agg #[.int .i64 (y:Int),.slice (some ⟨g,0,none⟩) 512 cp,.int .i64 k])] w fun e w'=>e=.returned (.tuple #[])/\(∃D',w'.ownsMap Tryz.prog 3 wrElem m (n+1) D'/\AMx nb D' (back1 (y,some (g,cp,k)) a))/\But (fun k=>k=m) w w':=by
 obtain⟨PO,hPO⟩:∃PO:Ending->World->Prop,PO=fun e w'=>e=.returned (.tuple #[])/\(∃D',w'.ownsMap Tryz.prog 3 wrElem m (n+1) D'/\AMx nb D' (back1 (y,some (g,cp,k)) a))/\But (fun k=>k=m) w w':=⟨_,rfl⟩
 rw[<- hPO]
 have hkey:keyOf Tryz.prog 3 (.int .i64 (y:Int))=some (.int .i64 (y:Int)):=Maps.keyOf_int_mk Tryz.underlying3 (WalkArith.wf_i64 (by omega))
 have hxm:=mapW_ne hm hX
 have hxl:=hX.lt
 have hml:=hm.lt
 obtain⟨w1,hw1⟩:∃w1,w1=w.alloc (.cells #[.int .i64 (y:Int),.slice (some ⟨g,0,none⟩) 512 cp,.int .i64 k] 171):=⟨_,rfl⟩
 have b1:Below w.heap.size w w1:=by rw[hw1];exact (Below.refl _ _).alloc (Nat.le_refl _) _
 have z1:w1.heap.size=w.heap.size+1:=by rw[hw1];simp
 have p0:w1.cell? ⟨w.heap.size,0,none⟩=some (.int .i64 (y:Int)):=by rw[hw1];exact cell_new rfl 0 _ rfl
 have p1:w1.cell? ⟨w.heap.size,1,none⟩=some (.slice (some ⟨g,0,none⟩) 512 cp):=by rw[hw1];exact cell_new rfl 1 _ rfl
 have p2:w1.cell? ⟨w.heap.size,2,none⟩=some (.int .i64 k):=by rw[hw1];exact cell_new rfl 2 _ rfl
 have x1:=(b1.cell (p:=⟨x,1,none⟩) hxl).trans (hX.cell 1)
 simp at x1
 obtain⟨wU,hrun,hownU,hturn⟩:=World.ownsMap.store (w:=w1.drew) (mapW_keep hm (b1.block m hml)) law3 Tryz.underlying157 (by unfold maxLen;omega) hkey (val:=.agg #[.slice (some ⟨g,0,none⟩) 512 cp,.int .i64 k]) (d:=.held (g,cp,k)) (ps:=[]) rfl
 have tb:But (fun k=>k=m) w1 wU:=(But.of_below (Below.refl w1.heap.size w1).drew (X:=fun k=>k=m)).comp (turned_but hturn) (fun _ _ q=>q)
 have u1:=(tb.cell (p:=⟨x,1,none⟩) (by show x<_;omega) hxm).trans x1
 have hne:¬w.heap.size=m:=by omega
 have v0:=(tb.cell (p:=⟨w.heap.size,0,none⟩) (by show w.heap.size<_;omega) hne).trans p0
 have v1:=(tb.cell (p:=⟨w.heap.size,1,none⟩) (by show w.heap.size<_;omega) hne).trans p1
 have v2:=(tb.cell (p:=⟨w.heap.size,2,none⟩) (by show w.heap.size<_;omega) hne).trans p2
 have FIN:Hid (PO (.returned (.tuple #[])) wU):=by
  rw[hPO]
  refine⟨rfl,⟨_,hownU,?_⟩,(But.of_below b1 (X:=fun k=>k=m)).comp tb (fun _ _ q=>q)⟩
  exact hA.put y hy (g,cp,k)
 have HB:=hid block_any
 have ta:=ta_not
 have tb2:=ta_again
 have HW1:=hid hw1
 clear hX hm hA hPO tb hownU hturn hkey hxm hy hnb hw1 b1 z1 hne hxl hml hn
 go_enter Tryz.func97,Tryz.ntmps97
 go_wp2_with (first | (simp only[ta]) | (simp only[tb2]))
 rw[<- HW1.out]
 refine wp_region_noPanic ?_
 refine Gz (S:=fun w'=>w'.cell? ⟨x,1,none⟩=some (.map (some m))/\w'.cell? ⟨w.heap.size,0,none⟩=some (.int .i64 (y:Int))/\w'.cell? ⟨w.heap.size,1,none⟩=some (.slice (some ⟨g,0,none⟩) 512 cp)/\w'.cell? ⟨w.heap.size,2,none⟩=some (.int .i64 k)) ⟨x1,p0,p1,p2⟩ (fun hSS=>?_)
 refine Ti 0 rfl ?_
 refine Ti 1 rfl ?_
 refine Ti 2 rfl ?_
 refine Ti 3 rfl ?_
 try simp only[Act.put,zA,zB,zC]
 refine Ti 4 rfl ?_
 refine Ti 5 rfl ?_
 refine Ti 7 rfl ?_
 refine Ti 8 rfl ?_
 try simp only[Act.put,zA,zB,zC]
 refine Ri 6 rfl (fun K9 hK9=>?_)
 go_simp
 go_at_call 125
 refine Calls.mono (HB.out y _) ?_
 rintro e wb ⟨rfl,hwb⟩
 rw[hwb]
 clear hwb HB
 refine hK9.out _ _ ⟨x1,p0,p1,p2⟩ (fun hSS=>?_)
 try simp only[Act.put,zA,zB,zC]
 refine Ri 9 rfl (fun K9 hK9=>?_)
 go_simp
 refine hK9.out _ _ ⟨u1,v0,v1,v2⟩ (fun hSS=>?_)
 try simp only[Act.put,zA,zB,zC]
 refine Dn (NoPanic.normal ?_)
 clear hSS
 go_wp2
 go_end0
 exact FIN.out
theorem takeBack_any{D:DataW Wr}{a:Nat->Option Wr}(s:Sp)(hX:Xb w x j m sv mv)(hm:w.ownsMap Tryz.prog 3 wrElem m n D)(hA:AMx nb D a)(hn:n<=1073741823)(hy:s.1<nb)(hnb:nb<=524288) :
  Calls Tryz.prog 97 #[.pointer (some ⟨x,0,none⟩),stepV s] w fun e w'=>e=.returned (.tuple #[])/\(∃n' D',n'<=n+1/\w'.ownsMap Tryz.prog 3 wrElem m n' D'/\AMx nb D' (back1 s a))/\But (fun k=>k=m) w w':=by
 obtain⟨y,r⟩:=s
 cases r with
 | none=>
  refine Calls.mono (takeBack_first hX hm hA hy hnb) ?_
  rintro e w' ⟨rfl,⟨D',q1,q2⟩,q3⟩
  exact⟨rfl,⟨n,D',by omega,q1,q2⟩,q3⟩
 | some r=>
  obtain⟨g,cp,k⟩:=r
  refine Calls.mono (takeBack_again (g:=g) (cp:=cp) (k:=k) hX hm hA hn hy hnb) ?_
  rintro e w' ⟨rfl,⟨D',q1,q2⟩,q3⟩
  exact⟨rfl,⟨n+1,D',by omega,q1,q2⟩,q3⟩
open Go.RowKit Go.Deep Go.Shelf
attribute [local go_sem] Oper.semAt_some
def bwd {β:Type} (ss:List β) (k:Nat):List (β×Nat):=ss.zipIdx.reverse.take k
theorem bwd_succ{ss:List β}{s:β}(hq:q=ss.length-1-k)(hk:k<ss.length)(hs:ss[q]?=some s):bwd ss (k+1)=bwd ss k++[(s,q)]:=by
 unfold bwd
 rw[List.take_add_one,List.getElem?_reverse (by simpa using hk)]
 simp only[List.length_zipIdx,List.getElem?_zipIdx,<- hq,hs]
 simp
theorem bwd_len(ss:List β)(hk:k<=ss.length):(bwd ss k).length=k:=by simp[bwd];omega
def Kp2 (sb Bs:Nat) (A B:World):Prop:=A.heap.size<=B.heap.size/\∀k,k<A.heap.size->(k=sb\/k=Bs)->B.heap[k]?=A.heap[k]?
theorem Kp2.trans{A B C:World}(h:Kp2 sb Bs A B)(k:Kp2 sb Bs B C):Kp2 sb Bs A C:=⟨Nat.le_trans h.1 k.1,fun i hi e=>(k.2 i (Nat.lt_of_lt_of_le hi h.1) e).trans (h.2 i hi e)⟩
theorem Kp2.refl(sb Bs:Nat)(A:World):Kp2 sb Bs A A:=⟨Nat.le_refl _,fun _ _ _=>rfl⟩
theorem Kp2.cell{A B:World}(h:Kp2 sb Bs A B){p:Addr}(hl:p.block<A.heap.size)(hp:p.block=sb\/p.block=Bs):B.cell? p=A.cell? p:=World.cell?_of_block (w:=A) (h.2 p.block hl hp)
theorem bw1_in (F:Fence) (n:Nat) (h7:F.fn 124) (hro:F.round=none) (hn:1<=n) (l Bs sb len cap:Nat) (sa:Option Addr) (val:β->Sp) (ss:List β) (hlen:len=ss.length) (hreach:len<=1073741824) (J Jx:List (β×Nat)->World->Prop)
  (hY:∀pre x W,J pre W->pre.length<len->YieldAt F (n-1) Tryz.prog l #[.int .i64 ((x.2:Nat):Int),stepV (val x.1)] W fun e W'=>
   (e=.returned (.bool true)/\J (pre++[x]) W'/\Kp2 sb Bs W W')\/(e=.returned (.bool false)/\Jx (pre++[x]) W'))
  (W:World) (hBl:Bs<W.heap.size) (hBs:W.cell? ⟨Bs,0,none⟩=some (.slice sa len cap)) (hc:ss=[]\/∃off,sa=some ⟨sb,off,none⟩/\sb<W.heap.size/\∀i s,ss[i]?=some s->W.cell? ⟨sb,off+i,none⟩=some (stepV (val s))) (h0:J [] W) :
  CallsIn F n Tryz.prog 124 #[.func (.yield l) #[] #[],.pointer (some ⟨Bs,0,none⟩)] W fun e W'=>(∃v,e=.returned v) /\
   ((∃ys,ys=bwd ss len/\J ys W')\/(∃pre,True/\Jx pre W')):=by
 have HC:=hid hc
 have HL:=hid hlen
 clear hc hlen
 refine callsIn_of_wp Tryz.func124 rfl h7 ?_ hro
 simp only[Tryz.ntmps124,List.size_toArray,List.length_cons,List.length_nil,Nat.reduceAdd,Nat.reduceSub,Array.replicate_succ,Array.replicate_zero,List.push_toArray,List.append_toArray,List.nil_append,List.cons_append]
 gi_wp2
 gi_loopw [3] (fun i wr=>∃k:Nat,k<=len/\i=.int .i64 ((len:Int)-1-(k:Int))/\J (bwd ss k) wr/\Kp2 sb Bs W wr)
  (fun i _=>(intOf i+1).toNat)
 case atStart=>exact⟨0,Nat.zero_le _,by simp,h0,Kp2.refl _ _ _⟩
 case round=>
  obtain⟨k,hk,rfl,hJs,hnx⟩:=hrel
  have hbx:=(hnx.cell (p:=⟨Bs,0,none⟩) hBl (.inr rfl)).trans hBs
  by_cases hlt:k<len
  ·obtain⟨q,hq⟩:∃q,q=len-1-k:=⟨_,rfl⟩
   have hqi:(len:Int)-1-(k:Int)=(q:Int):=by omega
   have hql:q<len:=by omega
   obtain⟨s,hs⟩:∃s,ss[q]?=some s:=⟨_,List.getElem?_eq_getElem (by have:=HL.out;omega)⟩
   obtain⟨off,rfl,hsb,hcs⟩:∃off,sa=some ⟨sb,off,none⟩/\sb<W.heap.size/\∀i s,ss[i]?=some s->W.cell? ⟨sb,off+i,none⟩=some (stepV (val s)):=by
    rcases HC.out with e | e
    ·rw[e]at hs;simp at hs
    ·exact e
   have hcx:=(hnx.cell (p:=⟨sb,off+q,none⟩) hsb (.inl rfl)).trans (hcs q s hs)
   obtain⟨fn,tmps,assign,body,hy,hR⟩:=hY _ (s,q) wr hJs (by rw[bwd_len _ (by have:=HL.out;omega)];exact hlt)
   have hx2:bwd ss (k+1)=bwd ss k++[(s,q)]:=bwd_succ (by rw[<- HL.out];exact hq) (by have:=HL.out;omega) hs
   dsimp only at hy
   rw[hqi]
   have hqn:(q:Int)-1=(len:Int)-1-((k+1:Nat):Int):=by omega
   have HX2:=hid hx2
   have HQN:=hid hqn
   clear hx2 hqn hqi hq hs hcs hsb
   gi_wp2
   refine hR.mono ?_
   rintro e W3 (⟨rfl,hJ3,hk3⟩ | ⟨rfl,hJx3⟩)
   ·gi_wp2
    go_roundw
    case rel=>exact⟨k+1,by omega,by first | rw[<- HQN.out] | (simp;have:=HQN.out;omega),by rw[HX2.out];exact hJ3,hnx.trans hk3⟩
    case measure=>simp[intOf]
   ·gi_wp2
    refine bodyPost_ret (results_none rfl _ _ _) rfl ?_
    exact⟨⟨_,rfl⟩,.inr ⟨_,trivial,hJx3⟩⟩
  ·obtain rfl:k=len:=by omega
   have hm1:(k:Int)-1-(k:Int)=-1:=by omega
   rw[hm1]
   gi_wp2
   go_end0
   exact⟨⟨_,rfl⟩,.inl ⟨_,rfl,hJs⟩⟩
theorem backward_in(F:Fence)(n:Nat)(h5:F.fn 96)(hro:F.round=none)(a:Option Addr)(len cap:Nat)(w:World) :
  CallsIn F n Tryz.prog 96 #[.slice a len cap] w fun e w'=>e=.returned (.func (.func 124) #[] #[.pointer (some ⟨w.heap.size,0,none⟩)])/\w'=w.alloc (.cells #[.slice a len cap] 158):=by
 refine callsIn_of_wp Tryz.func96 rfl h5 ?_ hro
 simp only[Tryz.ntmps96,List.size_toArray,List.length_cons,List.length_nil,Nat.reduceAdd,Nat.reduceSub,Array.replicate_succ,Array.replicate_zero,List.push_toArray,List.append_toArray,List.nil_append,List.cons_append]
 gi_wp2
 go_ret
 exact⟨rfl,rfl⟩
theorem backward_stops(F:Fence)(n:Nat)(h7:F.fn 124)(hro:F.round=none)(hn:1<=n)(Bs sb len cap:Nat)(sa:Option Addr)(val:β->Sp)(ss:List β)(hlen:len=ss.length)(hreach:len<=1073741824)(w:World)(hBl:Bs<w.heap.size)(hBs:w.cell? ⟨Bs,0,none⟩=some (.slice sa len cap))(hc:ss=[]\/∃off,sa=some ⟨sb,off,none⟩/\sb<w.heap.size/\∀i s,ss[i]?=some s->w.cell? ⟨sb,off+i,none⟩=some (stepV (val s))) :
  SeqStopsK F n Tryz.prog 124 #[.pointer (some ⟨Bs,0,none⟩)] (fun x:β×Nat=>#[Value.int .i64 ((x.2:Nat):Int),stepV (val x.1)]) (Kp2 sb Bs) (fun ys=>ys=bwd ss len) (fun _=>True) len w:=fun l J Jx W hW _ _ hY h0=>by
 have hs:=hW.size
 refine bw1_in F n h7 hro hn l Bs sb len cap sa val ss hlen hreach J Jx hY W (by omega) ((hW.cell (p:=⟨Bs,0,none⟩) hBl).trans hBs) (hc.imp id ?_) h0
 rintro ⟨off,e1,e2,e3⟩
 exact⟨off,e1,by omega,fun i s hi=>(hW.cell (p:=⟨sb,off+i,none⟩) e2).trans (e3 i s hi)⟩
open Go.RowKit Go.Deep
theorem setCells_blk{g:Nat}{e:TypeId}{z:Nat×Nat}(vs:List Value):∀(o:Nat) (w:World) (cur:Array Value),w.heap[g]?=some (.cells cur e z)->(∃cur',(w.setCells g o vs).heap[g]?=some (.cells cur' e z)/\cur'.size=cur.size/\cur'.toList.take o=cur.toList.take o)/\But (fun k=>k=g) w (w.setCells g o vs):=by
 induction vs with
 | nil=>exact fun o w cur h=>⟨⟨cur,h,rfl,rfl⟩,But.refl _ _⟩
 | cons v vs ih=>
  intro o w cur h
  have h1:(w.setCell ⟨g,o,none⟩ v).heap[g]?=some (.cells (cur.setIfInBounds o v) e z):=by
   simp only[World.setCell,Array.getElem?_modify]
   rw[h]
   simp
  obtain⟨⟨cur',q1,q2,q3⟩,q4⟩:=ih (o+1) (w.setCell ⟨g,o,none⟩ v) _ h1
  refine⟨⟨cur',q1,by simpa using q2,?_⟩,((But.refl (fun k=>k=g) w).setCell (p:=⟨g,o,none⟩) rfl v).comp q4 (fun _ _ q=>q)⟩
  have:=congrArg (List.take o) q3
  rw[List.take_take,List.take_take,Nat.min_eq_left (by omega)]at this
  rw[this,Array.toList_setIfInBounds,List.take_set_of_le (Nat.le_refl _)]
theorem row_take{base g cap:Nat}(h:w.ownsRow base e 1 (.slice (some ⟨g,0,none⟩) n cap) n xs)(hm:m<=n):w.ownsRow base e 1 (.slice (some ⟨g,0,none⟩) m cap) m (xs.take m):=by
 obtain⟨hl,h⟩:=h
 rcases h with ⟨q,_⟩ | ⟨g',cap',cur,q,h1,h2,h3,h4,h5,h6⟩
 ·cases q
 ·cases q
  refine⟨by simp at hl ⊢;omega,.inr ⟨g,cap,cur,rfl,h1,h2,by omega,h4,h5,?_⟩⟩
  rw[<- h6,List.take_take]
  congr 1
  omega
theorem row_cells{base g cap:Nat}(h:w.ownsRow base e 1 (.slice (some ⟨g,0,none⟩) n cap) n xs):∃cur,w.heap[g]?=some (.cells cur e (0,0))/\cur.size=cap/\n<=cap/\cap<=maxLen/\cur.toList.take n=xs:=by
 obtain⟨_,h⟩:=h
 rcases h with ⟨q,_⟩ | ⟨g',cap',cur,q,h1,h2,h3,h4,h5,h6⟩
 ·cases q
 ·cases q
  exact⟨cur,h2,by simpa using h5,h3,h4,by simpa using h6⟩
theorem zero219(w:World):(zeroValue 176).run Tryz.prog w=.ok .nilIface w:=by kernel_rfl
theorem delete_same(sa:Option Addr)(ns cap:Nat)(hns:ns<=cap)(w:World):Calls Tryz.prog 98 #[.slice sa ns cap,.int .i64 (ns:Int),.int .i64 (ns:Int)] w fun e w'=>e=.returned (.slice sa ns cap)/\w'=w:=by
 go_enter Tryz.func98,Tryz.ntmps98
 go_wp2
 all_goals (go_ret;exact⟨rfl,rfl⟩)
theorem delete_raw{g cap:Nat}(hr:w.ownsRow 0 176 1 (.slice (some ⟨g,0,none⟩) ns cap) ns xs)(hi:i<ns) :
  Calls Tryz.prog 98 #[.slice (some ⟨g,0,none⟩) ns cap,.int .i64 (i:Int),.int .i64 (ns:Int)] w fun e w'=>e=.returned (.slice (some ⟨g,0,none⟩) i cap)/\w'.ownsRow 0 176 1 (.slice (some ⟨g,0,none⟩) i cap) i (xs.take i)/\But (fun k=>k=g) w w':=by
 obtain⟨PO,hPO⟩:∃PO:Ending->World->Prop,PO=fun e w'=>e=.returned (.slice (some ⟨g,0,none⟩) i cap)/\w'.ownsRow 0 176 1 (.slice (some ⟨g,0,none⟩) i cap) i (xs.take i)/\But (fun k=>k=g) w w':=⟨_,rfl⟩
 rw[<- hPO]
 obtain⟨i219,hi9,hz9,hs9,hb9⟩:=info_parts info219
 obtain⟨cur,hg,hcs,hnc,hcm,hct⟩:=row_cells hr
 have hmx:cap<=9223372036854775807:=by unfold maxLen at hcm;omega
 have hcl:∀ty,(Builtin.clear_ #[158] ty #[.slice (some ⟨g,i,none⟩) (ns-i) (cap-i)]).run Tryz.prog w.drew=.ok (.tuple #[]) (w.drew.setCells g i (List.replicate (ns-i) .nilIface)):=fun ty=>Lib.run_clear_slice w.drew 158 176 ty .nilIface Tryz.underlying158 zero219 rfl rfl g i (ns-i) (cap-i) (by omega) (fun t ht=>by
   show (w.cell? ⟨g,i+t,none⟩).isSome=true
   simp[World.cell?,hg];omega) (fun t ht=>by
   show w.frozen? ⟨g,i+t,none⟩=false
   simp[World.frozen?,hg])
 have FIN:Hid (PO (.returned (.slice (some ⟨g,0,none⟩) i cap)) (w.drew.setCells g i (List.replicate (ns-i) .nilIface))):=by
  obtain⟨⟨cur',q1,q2,q3⟩,q4⟩:=setCells_blk (g:=g) (e:=176) (z:=(0,0)) (List.replicate (ns-i) .nilIface) i w.drew cur hg
  rw[hPO]
  refine⟨rfl,⟨?_,.inr ⟨g,cap,cur',rfl,Nat.zero_le _,q1,by omega,hcm,by rw[q2,hcs];simp,?_⟩⟩,(But.of_below (Below.refl w.heap.size w).drew (X:=fun k=>k=g)).comp q4 (fun _ _ q=>q)⟩
  ·have:=hr.1
   simp at this ⊢
   omega
  ·rw[Nat.mul_one,q3,<- hct,List.take_take,Nat.min_eq_left (by omega)]
 have hin:¬(i:Int)=(ns:Int):=by omega
 have hin':¬i=ns:=by omega
 have hc0:¬cap=0:=by omega
 have hci:¬cap=i:=by omega
 have hii:i<=ns:=by omega
 have hic:i<=cap:=by omega
 clear hPO hg hcs hcm hct hr
 by_cases hcn:cap=ns
 ·subst hcn
  go_enter Tryz.func98,Tryz.ntmps98
  go_wp2_with fail
  refine wp_region_noPanic ?_
  refine Gz (S:=fun _=>True) trivial (fun hSS=>?_)
  refine Ti 0 rfl ?_
  refine Ti 1 rfl ?_
  refine Ti 2 rfl ?_
  refine Ti 3 rfl ?_
  try simp only[Act.put,zA,zB,zC]
  refine Ti 4 rfl ?_
  refine Ti 5 rfl ?_
  try simp only[Act.put,zA,zB,zC]
  refine Ri 6 rfl (fun K9 hK9=>?_)
  refine step_append_room (by rfl) _ _ _ (by rfl) 176 i219 1 Tryz.underlying158 hi9 hs9 g 0 i cap (by rfl) _ 0 _ [] (by rfl) (by simp) (by simp) (by simp) (by omega) (by simp) ?_
  dsimp [Act.put]
  simp only[World.setCells]
  refine hK9.out _ _ trivial (fun hSS=>?_)
  try simp only[List.setIfInBounds_toArray,List.set_cons_zero,List.set_cons_succ]
  refine Ti 7 rfl ?_
  try simp only[Act.put,List.setIfInBounds_toArray,List.set_cons_zero]
  refine Dn (NoPanic.normal ?_)
  clear hSS
  go_wp2_with fail
  exact FIN.out
 ·go_enter Tryz.func98,Tryz.ntmps98
  go_wp2_with fail
  refine wp_region_noPanic ?_
  refine Gz (S:=fun _=>True) trivial (fun hSS=>?_)
  refine Ti 0 rfl ?_
  refine Ti 1 rfl ?_
  refine Ti 2 rfl ?_
  try simp only[Act.put,zA,zB,zC]
  refine Ti 3 rfl ?_
  refine Ti 4 rfl ?_
  refine Ti 5 rfl ?_
  try simp only[Act.put,zA,zB,zC]
  refine Ri 6 rfl (fun K9 hK9=>?_)
  refine step_append_room (by rfl) _ _ _ (by rfl) 176 i219 1 Tryz.underlying158 hi9 hs9 g 0 i cap (by rfl) _ 0 _ [] (by rfl) (by simp) (by simp) (by simp) (by omega) (by simp) ?_
  dsimp [Act.put]
  simp only[World.setCells]
  refine hK9.out _ _ trivial (fun hSS=>?_)
  try simp only[List.setIfInBounds_toArray,List.set_cons_zero,List.set_cons_succ]
  refine Ti 7 rfl ?_
  try simp only[Act.put,List.setIfInBounds_toArray,List.set_cons_zero]
  refine Dn (NoPanic.normal ?_)
  clear hSS
  go_wp2_with fail
  exact FIN.out
end Go.Proofs.YthfojpcibnfmgaaGreat
