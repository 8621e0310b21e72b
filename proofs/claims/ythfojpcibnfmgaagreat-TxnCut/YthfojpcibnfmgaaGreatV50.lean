import Derived.Test.YthfojpcibnfmgaaGreatV49
import Derived.Test.YthfojpcibnfmgaaGreatV11
import Derived.Deep.DeepCutAuto
set_option maxRecDepth 100000
set_option maxHeartbeats 16000000
namespace Go.Proofs.YthfojpcibnfmgaaGreat
variable {Q Q' Y:Nat->Prop}
variable {w w' w0:World}
variable {a:Option Addr}
variable {K K' M bl fr i ib ic j kk n nb p st:Nat}
variable {d:Pd}
variable {Ts:List Tn}
variable {r:Ra}
variable {wv:Value}
open Go.RowKit Go.Deep
variable {Gm:Nat×Nat×Nat}
structure Lw where
 fu:Int
 sa:Option Addr
 sc:Nat
 As:List Aw
 ka:Option Addr
 kn:Nat
 kc:Nat
 lv:Bool
def RdBQ (Q:Nat->Prop) (w:World) (a:Option Addr) (n:Nat):Prop:=n=0\/∃b off,a=some ⟨b,off,none⟩/\Q b/\b<w.heap.size/\∀i,i<n->∃x,w.cell? ⟨b,off+i,none⟩=some (.bool x)
theorem RdBQ.but(h:RdBQ Q w a n)(hb:But (fun k=>¬Q k) w w'):RdBQ Q w' a n:=by
 rcases h with h | ⟨b,off,e,hq,hl,h⟩
 ·exact .inl h
 ·refine .inr ⟨b,off,e,hq,Nat.lt_of_lt_of_le hl hb.size,fun i hi=>?_⟩
  obtain⟨x,hx⟩:=h i hi
  exact⟨x,(hb.cell (p:=⟨b,off+i,none⟩) hl (fun r=>r hq)).trans hx⟩
theorem RdBQ.wide(h:RdBQ Q w a n)(hq:∀k,Q k->Q' k):RdBQ Q' w a n:=h.imp id (fun⟨b,off,e,k1,k2⟩=>⟨b,off,e,hq b k1,k2⟩)
theorem RdBQ.rd(h:RdBQ Q w a n):RdB w a n:=h.imp id (fun⟨b,off,e,_,k2⟩=>⟨b,off,e,k2⟩)
def Lvr (Q:Nat->Prop) (w:World) (a:Option Addr) (Ls:List Lw):Prop:=(Ls=[]\/∃b off,a=some ⟨b,off,none⟩/\Q b/\b<w.heap.size/\∀t q,Ls[t]?=some q->w.cell? ⟨b,off+t * 4,none⟩=some (.int .i64 q.fu)/\w.cell? ⟨b,off+t * 4+1,none⟩=some (.slice q.sa q.As.length q.sc)/\w.cell? ⟨b,off+t * 4+2,none⟩=some (.slice q.ka q.kn q.kc)/\w.cell? ⟨b,off+t * 4+3,none⟩=some (.bool q.lv))/\∀q∈Ls,Scr Q w q.sa q.As/\RdBQ Q w q.ka q.kn/\q.kn<=1073741824
theorem Lvr.but{Ls:List Lw}(h:Lvr Q w a Ls)(hb:But (fun k=>¬Q k) w w'):Lvr Q w' a Ls:=by
 refine⟨?_,fun q hq=>⟨(h.2 q hq).1.but hb,(h.2 q hq).2.1.but hb,(h.2 q hq).2.2⟩⟩
 rcases h.1 with e | ⟨b,o,e,hq,l,q⟩
 ·exact .inl e
 ·have K:∀i,w'.cell? ⟨b,i,none⟩=w.cell? ⟨b,i,none⟩:=fun i=>hb.cell (p:=⟨b,i,none⟩) l (fun r=>r hq)
  refine .inr ⟨b,o,e,hq,Nat.lt_of_lt_of_le l hb.size,fun t d hd=>?_⟩
  obtain⟨q0,q1,q2,q3⟩:=q t d hd
  exact⟨(K _).trans q0,(K _).trans q1,(K _).trans q2,(K _).trans q3⟩
theorem Lvr.wide{Ls:List Lw}(h:Lvr Q w a Ls)(hq:∀k,Q k->Q' k):Lvr Q' w a Ls:=⟨h.1.imp id (fun⟨b,o,e,k1,k2⟩=>⟨b,o,e,hq b k1,k2⟩),fun q hm=>⟨(h.2 q hm).1.wide hq,(h.2 q hm).2.1.wide hq,(h.2 q hm).2.2⟩⟩
def mm (Ls:List Lw) (i:Nat):Nat:=((Ls.take i).map fun l=>l.As.length+2).sum
theorem mm_succ{Ls:List Lw}{q:Lw}(h:Ls[i]?=some q):mm Ls (i+1)=mm Ls i+(q.As.length+2):=by
 unfold mm
 rw[List.take_add_one,h]
 simp
theorem mm_le(Ls:List Lw)(i:Nat):mm Ls i<=mm Ls Ls.length:=by
 unfold mm
 rw[List.take_length]
 conv=>rhs;rw[<- List.take_append_drop i Ls]
 rw[List.map_append,List.sum_append]
 omega
theorem Tcs.back{QA:Nat->Prop}{wA:World}{ob:Nat}(h:Tcs Gm QA wA M ob w')(hq:∀k,Q k->QA k)(hb:But (fun k=>¬Q k) w0 wA):Tcs Gm Q w0 M ob w':=by
 obtain⟨B,Y,v,h1,h2,h3,h4,h5,h6⟩:=h
 exact⟨B,Y,v,h1,h2,h3,h4,fun k e=>h5 k (hq k e),hb.comp h6 (fun k _ e1 e2=>e1 (hq k e2))⟩
theorem Rop.more{ob:Nat}(h:Rop Gm Q w0 M ob p st kk K w)(hK:K<=K'):Rop Gm Q w0 M ob p st kk K' w:=by
 obtain⟨Y,j,c,nb,fr,bl,K1,d,s,home,Ts,r,h1,h2⟩:=h
 exact⟨Y,j,c,nb,fr,bl,K1,d,s,home,Ts,r,{ h1 with kb:=Nat.le_trans h1.kb hK },h2⟩
theorem Ros.low{ob:Nat}{c K1:Nat}{s:Js}{home:Nat->List Int}(h:Ros Gm Q w0 M ob p st K w Y j c nb fr bl K1 d s home Ts r)(b:Below w.heap.size w w'):Ros Gm Q w0 M ob p st K w' Y j c nb fr bl K1 d s home Ts r:={ h with
 P:=h.P.below b
 yb:=fun k e=>Nat.lt_of_lt_of_le (h.yb k e) b.size
 R:=h.R.keep (fun k hk=>b.block k (h.R.lt hk))
 c2:=(b.cell (p:=⟨ob,2,none⟩) h.ol).trans h.c2
 ol:=Nat.lt_of_lt_of_le h.ol b.size
 bt:=h.bt.trans (But.of_below b) }
theorem Rof.low{ob:Nat}(h:Rof Gm Q w0 M ob p st kk K w)(b:Below w.heap.size w w'):Rof Gm Q w0 M ob p st kk K w':=by
 obtain⟨Y,j,c,nb,fr,bl,K1,d,s,home,Ts,r,h1,h2⟩:=h
 exact⟨Y,j,c,nb,fr,bl,K1,d,s,home,Ts,r,h1.low b,h2⟩
theorem Rop.bound{ob:Nat}(h:Rop Gm Q w0 M ob p st kk K w):kk+134217728<=M:=by
 obtain⟨Y,j,c,nb,fr,bl,K1,d,s,home,Ts,r,h1,k0,h2,h3,_⟩:=h
 have:=h1.db.1
 omega
theorem mm_len(Ls:List Lw):2 * Ls.length<=mm Ls Ls.length:=by
 unfold mm
 rw[List.take_length]
 induction Ls with
 | nil=>simp
 | cons x l ih=>simp only[List.map_cons,List.sum_cons,List.length_cons];omega
theorem Lvr.at{Ls:List Lw}(h:Lvr Q w a Ls){t:Nat}{q:Lw}(hq:Ls[t]?=some q):∃b off,a=some ⟨b,off,none⟩/\w.cell? ⟨b,off+t * 4,none⟩=some (.int .i64 q.fu)/\w.cell? ⟨b,off+t * 4+1,none⟩=some (.slice q.sa q.As.length q.sc)/\w.cell? ⟨b,off+t * 4+2,none⟩=some (.slice q.ka q.kn q.kc)/\w.cell? ⟨b,off+t * 4+3,none⟩=some (.bool q.lv):=by
 rcases h.1 with rfl | ⟨b,off,e,_,_,k⟩
 ·simp at hq
 ·exact⟨b,off,e,k t q hq⟩
theorem Eds.base{ob:Nat}(h:Eds Gm Q w0 M ob w):But (fun k=>¬Q k) w0 w:=by
 obtain⟨_,_,_,_,h⟩:=h
 exact h
theorem Edi.base{ob:Nat}(h:Edi Gm Q w0 M ob ib ic w):But (fun k=>¬Q k) w0 w:=by
 obtain⟨_,_,_,_,_,h,_⟩:=h
 exact h
theorem Edw.form{ob:Nat}{ways:List Pu}(h:Edw Gm Q w0 M ob wv ways w)(hQ:∀k,Q k->k<w0.heap.size)(hM:M<=268435455) :
  ∃oa nw cw,wv=.slice oa nw cw/\nw<=268435455/\((nw=0/\Eds Gm Q w0 (M+1) ob w)\/(0<nw/\∃gw rb da dn dc xs,oa=some ⟨gw,0,none⟩/\dn<=268435455/\∀w3,Below w.heap.size w w3->w3.cell? ⟨ob,2,none⟩=some (.pointer (some ⟨rb,0,none⟩))/\w3.cell? ⟨rb,4,none⟩=some (.slice da dn dc)/\rowD w3 60 (.slice da dn dc) dn xs/\∀w6 g6 c6,w6.ownsRow 0 60 1 (.slice (some ⟨g6,0,none⟩) (dn+1) c6) (dn+1) (xs++[.slice (some ⟨gw,0,none⟩) nw cw])->w3.grownBy w6 (Value.slice da dn dc).ownBlock->((Value.slice da dn dc).ownBlock=some g6\/g6=w3.heap.size)->w6.cell? ⟨ob,2,none⟩=some (.pointer (some ⟨rb,0,none⟩))/\(∃old,w6.cell? ⟨rb,4,none⟩=some old)/\w6.frozen? ⟨rb,4,none⟩=false/\(w6.setCell ⟨rb,4,none⟩ (.slice (some ⟨g6,0,none⟩) (dn+1) c6)).cell? ⟨ob,2,none⟩=some (.pointer (some ⟨rb,0,none⟩))/\Eds Gm Q w0 (M+1) ob (w6.setCell ⟨rb,4,none⟩ (.slice (some ⟨g6,0,none⟩) (dn+1) c6)))):=by
 rcases h.push hQ hM with ⟨rfl,rfl,hS⟩ | ⟨g,c,rb,da,dn,dc,xs,rfl,k1,k2,k3,k4⟩
 ·exact⟨none,0,0,rfl,Nat.zero_le _,.inl ⟨rfl,hS⟩⟩
 ·exact⟨some ⟨g,0,none⟩,ways.length,c,rfl,k2,.inr ⟨k1,g,rb,da,dn,dc,xs,rfl,k3,k4⟩⟩
def Ax (Gm:Nat×Nat×Nat) (Q:Nat->Prop) (w0:World) (M ob p:Nat) (sv:Value) (w:World):Prop:=But (fun k=>¬Q k) w0 w/\((∃st,sv=.pointer (some ⟨st,0,none⟩)/\RopS Gm Q w0 M ob p st w)\/(sv=.pointer none/\Edo Gm Q w0 M ob p w))
theorem Edi.ax{ob:Nat}(h:Edi Gm Q w0 M ob ib ic w)(hQ:∀k,Q k->k<w0.heap.size)(re:Int)(fuse:Int)(v1 v2 v3:Value) :
  Calls Tryz.prog 20 #[.pointer (some ⟨ob,0,none⟩),.slice (some ⟨ib,0,none⟩) (512 * Gm.1) ic,.agg #[.int .i64 (Gm.2.1:Int),.int .i64 (Gm.2.2:Int),.int .i64 re],.agg #[.int .i64 fuse,v1,v2,v3]] w fun e w'=>∃p sv,e=.returned (.tuple #[.pointer (some ⟨p,0,none⟩),sv,.bool true])/\Ax Gm Q w0 M ob p sv w':=by
 refine Calls.mono (h.anew hQ re fuse v1 v2 v3) ?_
 rintro e w' ⟨b,⟨p,st,rfl,k⟩ | ⟨p,rfl,k⟩⟩
 ·exact⟨p,_,rfl,b,.inl ⟨st,rfl,k⟩⟩
 ·exact⟨p,_,rfl,b,.inr ⟨rfl,k⟩⟩
def nilM:Value->Nat
 | .pointer none=>1
 | _=>0
structure Rnd (Gm:Nat×Nat×Nat) (Q:Nat->Prop) (wS:World) (QA:Nat->Prop) (wA:World) (M ob Lb rk:Nat) (re:Int) (q:Lw):Prop where
 t:Tcs Gm QA wA M ob wA
 lt:∀k,QA k->k<wA.heap.size
 cb:∀w',But (fun k=>¬QA k) wA w'->w'.cell? ⟨Lb,0,none⟩=some (.int .i64 q.fu)/\w'.cell? ⟨Lb,1,none⟩=some (.slice q.sa q.As.length q.sc)/\w'.cell? ⟨Lb,2,none⟩=some (.slice q.ka q.kn q.kc)/\w'.cell? ⟨Lb,3,none⟩=some (.bool q.lv)/\w'.cell? ⟨rk,0,none⟩=some (.int .i64 (Gm.2.1:Int))/\w'.cell? ⟨rk,1,none⟩=some (.int .i64 (Gm.2.2:Int))/\w'.cell? ⟨rk,2,none⟩=some (.int .i64 re)/\RdB w' q.ka q.kn
 sc:Scr QA wA q.sa q.As
 back:∀M' ob' w',Tcs Gm QA wA M' ob' w'->Tcs Gm Q wS M' ob' w'
 kn:q.kn<=1073741824
structure Beg (Gm:Nat×Nat×Nat) (PO:Ending->World->Prop) (Q:Nat->Prop) (wS:World) (rk:Nat) (re:Int) (la:Option Addr) (Ls:List Lw):Prop where
 lt:∀k,Q k->k<wS.heap.size
 rq:Q rk
 rc:wS.cell? ⟨rk,0,none⟩=some (.int .i64 (Gm.2.1:Int))/\wS.cell? ⟨rk,1,none⟩=some (.int .i64 (Gm.2.2:Int))/\wS.cell? ⟨rk,2,none⟩=some (.int .i64 re)
 ls:Lvr Q wS la Ls
 fin:∀w',But (fun k=>¬Q k) wS w'->PO (.returned (.bool true)) w'
theorem Beg.round{PO:Ending->World->Prop}{wS:World}{rk:Nat}{re:Int}{la:Option Addr}{Ls:List Lw}(h:Beg Gm PO Q wS rk re la Ls){wo:World}{ob:Nat}{q:Lw}(hP:Tcs Gm Q wS M ob wo)(hq:Ls[i]?=some q) :
  ∃b off,la=some ⟨b,off,none⟩/\(wo.cell? ⟨b,off+i * 4,none⟩=some (.int .i64 q.fu)/\wo.cell? ⟨b,off+i * 4+1,none⟩=some (.slice q.sa q.As.length q.sc)/\wo.cell? ⟨b,off+i * 4+2,none⟩=some (.slice q.ka q.kn q.kc)/\wo.cell? ⟨b,off+i * 4+3,none⟩=some (.bool q.lv))/\∀wA Lb,wA=(wo.alloc (.cells #[.int .i64 q.fu,.slice q.sa q.As.length q.sc,.slice q.ka q.kn q.kc,.bool q.lv] 50))->Lb=wo.heap.size->∃QA,Rnd Gm Q wS QA wA M ob Lb rk re q:=by
 have hb:=hP.base
 obtain⟨b,off,e,k⟩:=(h.ls.but hb).at hq
 refine⟨b,off,e,k,fun wA Lb hA hLb=>?_⟩
 have bA:Below wo.heap.size wo wA:=by rw[hA];exact (Below.refl _ _).alloc (Nat.le_refl _) _
 have zA:wA.heap.size=wo.heap.size+1:=by rw[hA];simp
 have hbA:But (fun k=>¬Q k) wS wA:=hb.trans (But.of_below bA)
 have zs:=hb.size
 obtain⟨s1,s2,s3⟩:=h.ls.2 q (List.mem_of_getElem? hq)
 have cN:∀t v,#[.int .i64 q.fu,.slice q.sa q.As.length q.sc,.slice q.ka q.kn q.kc,.bool q.lv][t]?=some v->wA.cell? ⟨Lb,t,none⟩=some v:=fun t v hv=>by rw[hA,hLb];exact cell_new rfl t _ hv
 refine⟨fun k=>Q k\/k=Lb,hP.anew (fun k e=>e.imp id (fun e=>by omega)) bA,fun k e=>?_,fun w' hw=>?_,(s1.but hbA).wide (fun k e=>.inl e),fun M' ob' w' ht=>ht.back (fun k e=>.inl e) hbA,s3⟩
 ·rcases e with e | e
  ·have:=h.lt k e
   omega
  ·omega
 ·have KL:∀t,w'.cell? ⟨Lb,t,none⟩=wA.cell? ⟨Lb,t,none⟩:=fun t=>hw.cell (p:=⟨Lb,t,none⟩) (by show Lb<_;omega) (fun r=>r (.inr rfl))
  have hrl:=h.lt rk h.rq
  have KR:∀t,w'.cell? ⟨rk,t,none⟩=wS.cell? ⟨rk,t,none⟩:=fun t=>(hw.cell (p:=⟨rk,t,none⟩) (by show rk<_;omega) (fun r=>r (.inl h.rq))).trans (hbA.cell (p:=⟨rk,t,none⟩) hrl (fun r=>r h.rq))
  refine⟨(KL 0).trans (cN 0 _ rfl),(KL 1).trans (cN 1 _ rfl),(KL 2).trans (cN 2 _ rfl),(KL 3).trans (cN 3 _ rfl),(KR 0).trans h.rc.1,(KR 1).trans h.rc.2.1,(KR 2).trans h.rc.2.2,?_⟩
  exact (((s2.but hbA).wide (fun k e=>.inl e)).but hw).rd
open Go.RowKit Go.Deep
theorem cut_law(a b c:Int)(la:Option Addr)(lc:Nat)(Ls:List Lw)(w:World)(hL:Lvr (fun k=>k<w.heap.size) w la Ls)(hN:mm Ls Ls.length<=2097151) :
  Calls Tryz.prog 8 #[.agg #[.int .i64 a,.int .i64 b,.int .i64 c],.slice la Ls.length lc] w fun e w'=>e=.returned (.bool true)/\Below w.heap.size w w':=by
 obtain⟨PO,hPO⟩:∃PO:Ending->World->Prop,PO=fun e w'=>e=.returned (.bool true)/\Below w.heap.size w w':=⟨_,rfl⟩
 rw[<- hPO]
 obtain⟨N,hNe⟩:∃N,N=Ls.length:=⟨_,rfl⟩
 rw[<- hNe]
 have hml:=mm_len Ls
 have hN3:N<=2097151:=by omega
 have HMB:=hid hN
 have HLN:Hid (∀i,i<N->∃q,Ls[i]?=some q):=fun i hi=>⟨_,List.getElem?_eq_getElem (by omega)⟩
 obtain⟨pk,hpk⟩:∃pk,pk=w.heap.size:=⟨_,rfl⟩
 obtain⟨wP,hwP⟩:∃wP,wP=w.alloc (.cells #[.int .i64 a,.int .i64 b,.int .i64 c] 23):=⟨_,rfl⟩
 have zP:wP.heap.size=w.heap.size+1:=by rw[hwP];simp
 have bP:Below w.heap.size w wP:=by rw[hwP];exact (Below.refl _ _).alloc (Nat.le_refl _) _
 have cA:∀t v,#[Value.int .i64 a,.int .i64 b,.int .i64 c][t]?=some v->wP.cell? ⟨pk,t,none⟩=some v:=fun t v hv=>by rw[hwP,hpk];exact cell_new rfl t _ hv
 obtain⟨Gm,hGm⟩:∃Gm:Nat×Nat×Nat,Gm=(into 10 a+(16+into 16 b)+(1+into 9 c),into 10 a,16+into 16 b):=⟨_,rfl⟩
 obtain⟨re,hre⟩:∃re:Int,re=1+(into 9 c:Int):=⟨_,rfl⟩
 have HG:Hid (Gm.1<=64):=by
  have l1:=into_lt a (show 0<10 by decide)
  have l2:=into_lt b (show 0<16 by decide)
  have l3:=into_lt c (show 0<9 by decide)
  rw[hGm]
  show into 10 a+(16+into 16 b)+(1+into 9 c)<=64
  omega
 have HO:Hid (Calls Tryz.prog 12 #[.agg #[.int .i64 a,.int .i64 b,.int .i64 c]] wP fun e w1=>∃ob,e=.returned (.tuple #[.pointer (some ⟨ob,0,none⟩),.bool true])/\(w1.cell? ⟨pk,0,none⟩=some (.int .i64 a)/\w1.cell? ⟨pk,1,none⟩=some (.int .i64 b)/\w1.cell? ⟨pk,2,none⟩=some (.int .i64 c))/\Calls Tryz.prog 16 #[.agg #[.int .i64 a,.int .i64 b,.int .i64 c]] w1 fun e w2=>e=.returned (.agg #[.int .i64 (Gm.2.1:Int),.int .i64 (Gm.2.2:Int),.int .i64 re])/\∀wS rk,wS=w2.alloc (.cells #[.int .i64 (Gm.2.1:Int),.int .i64 (Gm.2.2:Int),.int .i64 re] 23)->rk=w2.heap.size->∃Q,Beg Gm PO Q wS rk re la Ls/\Tcs Gm Q wS (134217728+mm Ls 0) ob wS):=by
  refine Calls.mono (open_dsk a b c wP) ?_
  rw[<- hGm]
  rintro e w1 ⟨ob,B,rfl,⟨Y,v,d1,d2,d3,d4⟩,l1,q1⟩
  have K:∀t,w1.cell? ⟨pk,t,none⟩=wP.cell? ⟨pk,t,none⟩:=fun t=>q1.cell (p:=⟨pk,t,none⟩) (by show pk<_;omega)
  refine⟨ob,rfl,⟨(K 0).trans (cA 0 _ rfl),(K 1).trans (cA 1 _ rfl),(K 2).trans (cA 2 _ rfl)⟩,Calls.mono (right_any a b c w1) ?_⟩
  rintro e w2 ⟨rfl,q2⟩
  have g1:(into 10 a:Int)=(Gm.2.1:Int):=by rw[hGm]
  have g2:16+(into 16 b:Int)=(Gm.2.2:Int):=by rw[hGm];simp
  refine⟨by rw[g1,g2,hre],fun wS rk hS hrk=>?_⟩
  have zS:wS.heap.size=w2.heap.size+1:=by rw[hS];simp
  have bS:Below w2.heap.size w2 wS:=by rw[hS];exact (Below.refl _ _).alloc (Nat.le_refl _) _
  have z1:=q1.size
  have z2:=q2.size
  have b1S:Below w1.heap.size w1 wS:=q2.trans (bS.mono z2)
  have b0S:Below w.heap.size w wS:=bP.trans ((q1.mono (by omega)).trans (b1S.mono (by omega)))
  have cN:∀t v,#[.int .i64 (Gm.2.1:Int),.int .i64 (Gm.2.2:Int),.int .i64 re][t]?=some v->wS.cell? ⟨rk,t,none⟩=some v:=fun t v hv=>by rw[hS,hrk];exact cell_new rfl t _ hv
  have hBl:∀k,B k->k<w1.heap.size:=fun k e=>d1.lt ((d3 k).1 e)
  have hlo:∀k,k<w.heap.size->k<wS.heap.size/\¬B k:=fun k hk=>⟨by omega,fun e=>by have:=l1 k e;omega⟩
  refine⟨fun k=>k<wS.heap.size/\¬B k,⟨fun k e=>e.1,⟨by omega,fun e=>by have:=hBl _ e;omega⟩,⟨cN 0 _ rfl,cN 1 _ rfl,cN 2 _ rfl⟩,?_,fun w' hb=>?_⟩,B,Y,v,d1.low b1S,?_,d3,d4,fun k e=>e.2,But.refl _ _⟩
  ·exact (hL.but (But.of_below b0S)).wide hlo
  ·rw[hPO]
   exact⟨rfl,b0S.trans (hb.below (by omega) (fun k hk r=>r (hlo k hk)))⟩
  ·have:mm Ls 0=0:=by unfold mm;simp
   rw[this,Nat.add_zero]
   exact d2
 have HWP:=hid hwP
 have HPK:=hid hpk
 have d0:=cA 0 _ rfl
 have d1:=cA 1 _ rfl
 have d2:=cA 2 _ rfl
 clear hL hN hml hpk hwP zP bP cA hGm hre hPO hNe
 go_enter Tryz.func8,Tryz.ntmps8
 go_wp2_with fail
 rw[<- HWP.out,<- HPK.out]
 clear HWP HPK
 go_wp2_with fail
 refine Calls.mono HO.out ?_
 rintro e w1 ⟨ob,rfl,⟨p0,p1,p2⟩,h2⟩
 have H2:=hid h2
 clear h2 HO d0 d1 d2
 go_wp2_with fail
 refine Calls.mono H2.out ?_
 rintro e w2 ⟨rfl,h3⟩
 obtain⟨wS,hwS⟩:∃wS,wS=w2.alloc (.cells #[.int .i64 (Gm.2.1:Int),.int .i64 (Gm.2.2:Int),.int .i64 re] 23):=⟨_,rfl⟩
 obtain⟨rk,hrk⟩:∃rk,rk=w2.heap.size:=⟨_,rfl⟩
 obtain⟨Q,hB,hT0⟩:=h3 wS rk hwS hrk
 have HWS:=hid hwS
 have HRK:=hid hrk
 have HB:=hid hB
 have HT0:=hid hT0
 clear h3 hB hT0 H2 p0 p1 p2 hwS hrk
 go_wp2_with fail
 rw[<- HWS.out,<- HRK.out]
 clear HWS HRK
 go_loopw [8,5] (fun iv dv wr=>∃(i ob:Nat),i<=N/\iv=.int .i64 (i:Int)/\dv=.pointer (some ⟨ob,0,none⟩)/\Tcs Gm Q wS (134217728+mm Ls i) ob wr) (fun iv _ _=>N-(intOf iv).toNat)
 case atStart=>exact⟨0,ob,Nat.zero_le _,rfl,rfl,HT0.out⟩
 case round=>
  clear HT0
  rename World=>wo
  obtain⟨i,ob,hiN,rfl,rfl,hP⟩:=hrel
  by_cases hi9:i<N
  ·obtain⟨q,hq⟩:=HLN.out i hi9
   obtain⟨bb,off,ea,⟨k0,k1,k2,k3⟩,hR0⟩:=HB.out.round hP hq
   have hms:=mm_succ hq
   have hml:=mm_le Ls (i+1)
   have hmb:=HMB.out
   obtain⟨M,hM⟩:∃M,M=134217728+mm Ls i:=⟨_,rfl⟩
   rw[<- hM]at hR0
   obtain⟨M2,hM2e⟩:∃M2,M2=M+q.As.length+1+1:=⟨_,rfl⟩
   have HMM:Hid (M2=134217728+mm Ls (i+1)):=by show M2=_;omega
   have hM2:M2<=268435455:=by omega
   have HK:Hid (∀kk,kk+134217728<=M2->Gm.1 * kk+Gm.1<=M2):=fun kk hkk=>by
    have:=Nat.mul_le_mul HG.out (Nat.le_refl kk)
    have:=HG.out
    omega
   obtain⟨wA,hwA⟩:∃wA,wA=(wo.alloc (.cells #[.int .i64 q.fu,.slice q.sa q.As.length q.sc,.slice q.ka q.kn q.kc,.bool q.lv] 50)):=⟨_,rfl⟩
   obtain⟨Lb,hLb⟩:∃Lb,Lb=wo.heap.size:=⟨_,rfl⟩
   obtain⟨QA,hR⟩:=hR0 wA Lb hwA hLb
   have hi':(i:Int)<(N:Int):=by omega
   obtain⟨l0,l1,l2,l3,r0,r1,r2,hKB⟩:=hR.cb wA (But.refl _ _)
   have HR:=hid hR
   have HWA:=hid hwA
   have HLB:=hid hLb
   subst ea
   clear hP hq hwA hLb hR hR0 HLN hms hml hmb hM HB hKB HMB HG
   go_upto_region 9 with fail
   rw[<- HWA.out,<- HLB.out]
   clear HWA HLB k0 k1 k2 k3
   go_upto_if 40 with fail
   go_cut [] (fun wx=>Tcs Gm QA wA M ob wx)
   case first=>
    by_cases hf:(0:Int)<=q.fu
    ·have e1:(bits .and .i64 q.fu 4611686018427387903).tmod 200=(into 200 q.fu:Int):=into_eq 200 q.fu
     have l200:=into_lt q.fu (show 0<200 by decide)
     have p1:=and62_pos q.fu
     obtain⟨p,c0,hF⟩:=(HR.out.t.low (Below.refl _ _).drew).fuse HR.out.lt (into 200 q.fu:Int) (by omega) (by omega)
     change wA.cell? ⟨ob,0,none⟩=some (.pointer (some ⟨p,0,none⟩)) at c0
     have HF:=hid hF
     clear hF l1 l2 l3 r0 r1 r2
     go_wp2_with fail
     refine Gz (S:=fun w'=>w'.cell? ⟨Lb,0,none⟩=some (.int .i64 q.fu)/\w'.cell? ⟨ob,0,none⟩=some (.pointer (some ⟨p,0,none⟩))) ⟨l0,c0⟩ (fun hSS=>?_)
     refine Ti 0 rfl ?_
     refine Ti 1 rfl ?_
     refine Ti 2 rfl ?_
     refine Ti 3 rfl ?_
     try simp only[Act.put,zA,zB,zC]
     refine Ti 4 rfl ?_
     refine Ti 5 rfl ?_
     refine Ti 6 rfl ?_
     refine Ti 7 rfl ?_
     try simp only[Act.put,zA,zB,zC]
     refine Ri 8 rfl (fun K9 hK9=>?_)
     go_simp
     go_at_call 17
     refine Calls.mono HF.out ?_
     rintro e w1 ⟨x,rfl,y0,hT⟩
     have m0:=(HR.out.cb w1 hT.base).1
     refine hK9.out _ _ ⟨m0,y0⟩ (fun hSS=>?_)
     try simp only[Act.put,zA,zB,zC]
     refine Dn ?_
     have FIN:=hid hT
     clear hSS HF hT y0 m0
     go_wp2_with fail
     go_meet
     exact FIN.out
    ·have FIN:=hid HR.out.t
     go_wp2_with fail
     go_meet
     exact FIN.out
   case rest=>
    clear l0 l1 l2 l3 r0 r1 r2
    obtain⟨l0,l1,l2,l3,r0,r1,r2,hKB⟩:=HR.out.cb wc hcut.base
    have HLV:=hid (hcut.lives (sc:=q.sc) HR.out.lt HR.out.sc (by omega) q.lv)
    clear hcut hKB
    go_wp2_with fail
    refine Calls.mono HLV.out ?_
    rintro e w2 ⟨wv,ways,rfl,hE⟩
    obtain⟨oa,nw,cw,rfl,hnw,hcs⟩:=hE.form HR.out.lt (by omega)
    rw[<- hM2e]at hcs
    have HCS:=hid hcs
    clear hE hcs HLV l0 l1 l2 l3 r0 r1 r2
    go_upto_if 63 with fail
    go_cut [10] (fun _ wx=>Eds Gm QA wA M2 ob wx)
    case first=>
     rcases HCS.out with ⟨h0,hS⟩ | ⟨h0,gw,rb,da,dn,dc,xs,rfl,hp3,hpu⟩
     ·have hz:¬(0:Int)<(nw:Int):=by omega
      have FIN:=hid hS
      clear hS HCS h0
      go_wp2_with fail
      go_meet
      exact FIN.out
     ·have hz:(0:Int)<(nw:Int):=by omega
      have bx:Below w2.heap.size w2 (w2.drew.alloc (.cells #[.slice (some ⟨gw,0,none⟩) nw cw] 60)):=(Below.refl _ _).drew.alloc (by simp) _
      obtain⟨x2a,x4a,hrow,hp⟩:=hpu _ bx
      obtain⟨x2,x4d,_,_⟩:=hpu w2.drew (Below.refl _ _).drew
      obtain⟨_,x4b,_,_⟩:=hpu (w2.alloc (.cells #[.slice (some ⟨gw,0,none⟩) nw cw] 60)) ((Below.refl _ _).alloc (Nat.le_refl _) _)
      change w2.cell? ⟨ob,2,none⟩=some (.pointer (some ⟨rb,0,none⟩)) at x2
      have x4:w2.cell? ⟨rb,4,none⟩=some (.slice da dn dc):=x4d
      have HROW:=hid hrow
      have HNW:=hid (news1R w2.drew (.slice (some ⟨gw,0,none⟩) nw cw) 60)
      have hz9:(w2.drew.alloc (.cells #[.slice (some ⟨gw,0,none⟩) nw cw] 60)).heap.size=w2.heap.size+1:=by simp
      rw[hz9]at hp
      have HPU:=hid hp
      obtain⟨i6,hi6,hz6,hs6,hb6⟩:=info_parts info60
      clear hrow hp hpu HCS bx h0 hz9
      go_wp2_with fail
      refine wp_region_noPanic ?_
      refine Gz (S:=fun w'=>w'.cell? ⟨ob,2,none⟩=some (.pointer (some ⟨rb,0,none⟩))) x2 (fun hSS=>?_)
      refine Ti 0 rfl ?_
      try simp only[Act.put,zA,zB,zC]
      refine Ti 1 rfl ?_
      refine Ti 2 rfl ?_
      refine Ti 3 rfl ?_
      refine Ti 4 rfl ?_
      try simp only[Act.put,zA,zB,zC]
      refine Ti 5 rfl ?_
      refine Ti 6 rfl ?_
      refine Ti 7 rfl ?_
      refine Ti 8 rfl ?_
      try simp only[Act.put,zA,zB,zC]
      refine Ti 9 rfl ?_
      refine Ti 11 rfl ?_
      try simp only[Act.put,zA,zB,zC]
      refine Rr 10 12 rfl rfl (fun K9 hK9=>?_) (fun K9 hK9=>?_)
      go_simp
      refine hK9.out _ _ hSS (fun hSS=>?_)
      try simp only[Act.put,zA,zB,zC]
      refine Ri 12 rfl (fun K9 hK9=>?_)
      go_simp
      refine hK9.out _ _ x2a (fun hSS=>?_)
      try simp only[Act.put,zA,zB,zC]
      rotate_left
      go_simp
      refine hK9.out _ _ x2a (fun hSS=>?_)
      try simp only[Act.put,zA,zB,zC]
      refine Ri 10 rfl (fun K9 hK9=>?_)
      go_simp
      refine hK9.out _ _ x2a (fun hSS=>?_)
      try simp only[Act.put,zA,zB,zC]
      all_goals
       refine Ri 13 rfl (fun K9 hK9=>?_)
       refine step_append_rowD _ (by rfl) _ _ _ (by rfl) 60 i6 (.slice none 0 0) 24 Tryz.underlying63 hi6 hz6 hs6 hb6 rfl _ dn _ (by rfl) (by exact HROW.out) ⟨w2.heap.size,0,none⟩ 1 1 [.slice (some ⟨gw,0,none⟩) nw cw] (by rfl) (by rfl) (by exact HNW.out) (by intro u hu;simp at hu;subst hu;rfl) (by decide) (by unfold maxLen;omega) (by omega) (w2.heap.size+1) (by simp) ?_
       intro g6 c6 w6 ho6 hg6 hl6 _
       obtain⟨y2,⟨old,y4⟩,yf,y2s,hE⟩:=HPU.out w6 g6 c6 ho6 hg6 hl6
       have HE:=hid hE
       clear ho6 hg6 hl6 hE HPU HROW HNW
       dsimp [Act.put]
       refine hK9.out _ _ y2 (fun hSS=>?_)
       try simp only[List.setIfInBounds_toArray,List.set_cons_zero,List.set_cons_succ]
       refine Ti 14 rfl ?_
       refine Ti 15 rfl ?_
       try simp only[Act.put,zA,zB,zC]
       refine Ri 16 rfl (fun K9 hK9=>?_)
       go_simp
       refine hK9.out _ _ y2s (fun hSS=>?_)
       try simp only[Act.put,zA,zB,zC]
       refine Dn (NoPanic.normal ?_)
       clear hSS
       go_wp2_with fail
       go_meet
       exact HE.out
    case rest=>
     have b9:=hcut.base
     obtain⟨l0,l1,l2,l3,r0,r1,r2,hKB⟩:=HR.out.cb wc.drew (b9.trans (But.of_below (Below.refl _ _).drew))
     obtain⟨p,c0,hLf⟩:=(hcut.low (Below.refl _ _).drew).left q.ka q.kn q.kc HR.out.kn hKB
     change wc.cell? ⟨ob,0,none⟩=some (.pointer (some ⟨p,0,none⟩)) at c0
     change wc.cell? ⟨Lb,2,none⟩=some (.slice q.ka q.kn q.kc) at l2
     have HLF:=hid hLf
     clear hcut hLf hKB l0 l1 l3 r0 r1 r2 b9
     go_wp2_with fail
     refine Gz (S:=fun w'=>w'.cell? ⟨ob,0,none⟩=some (.pointer (some ⟨p,0,none⟩))/\w'.cell? ⟨Lb,2,none⟩=some (.slice q.ka q.kn q.kc)) ⟨c0,l2⟩ (fun hSS=>?_)
     refine Ti 0 rfl ?_
     refine Ti 1 rfl ?_
     try simp only[Act.put,zA,zB,zC]
     refine Ti 2 rfl ?_
     refine Ti 3 rfl ?_
     refine Ti 4 rfl ?_
     refine Ti 5 rfl ?_
     try simp only[Act.put,zA,zB,zC]
     refine Ri 6 rfl (fun K9 hK9=>?_)
     go_simp
     go_at_call 19
     refine Calls.mono HLF.out ?_
     rintro e w4 ⟨ib,ic,rfl,y0,hI⟩
     obtain⟨m0,m1,m2,m3,s0,s1,s2,hKB⟩:=HR.out.cb w4 hI.base
     refine hK9.out _ _ ⟨y0,m2⟩ (fun hSS=>?_)
     try simp only[Act.put,zA,zB,zC]
     refine Ti 7 rfl ?_
     try simp only[Act.put,zA,zB,zC]
     refine Dn ?_
     clear hSS HLF c0 l2
     have HAN:=hid (hI.ax HR.out.lt re q.fu (.slice q.sa q.As.length q.sc) (.slice q.ka q.kn q.kc) (.bool q.lv))
     clear hI hKB y0
     go_wp2_with fail
     refine Calls.mono HAN.out ?_
     rintro e w5 ⟨p5,sv,rfl,h5⟩
     have H5:=hid h5
     clear h5 HAN m0 m1 m2 m3 s0 s1 s2
     go_wp2_with fail
     go_loopw [12,13,14,15,16] (fun iv ev sv fv kv wr=>∃p,ev=.pointer (some ⟨p,0,none⟩)/\fv=.bool true/\(sv=.pointer none->kv=.int .i64 0)/\Ax Gm QA wA M2 ob p sv wr) (fun iv ev sv fv kv _=>nilM sv)
     case atStart=>exact⟨p5,rfl,rfl,(fun _=>rfl),H5.out⟩
     case round=>
      clear H5
      rename World=>wx
      obtain⟨p,rfl,rfl,hk,bA,hcase⟩:=hrel
      rcases hcase with ⟨st,rfl,hS⟩ | ⟨rfl,hO⟩
      ·obtain⟨rb5,su,⟨c2,c5⟩,hRop⟩:=hS
       have HRP:=hid hRop
       clear hRop bA hk
       go_wp2_with fail
       clear c2 c5
       go_loopw [17] (fun kv wr=>∃kk:Nat,kv=.int .i64 (kk:Int)/\Rop Gm QA wA M2 ob p st kk (Gm.1 * kk) wr) (fun kv _=>268435456-(intOf kv).toNat)
       case atStart=>exact⟨su,rfl,HRP.out.more (Nat.zero_le _)⟩
       case round=>
        clear HRP
        rename World=>wf
        obtain⟨kk,rfl,hRo⟩:=hrel
        have hkb:=hRo.bound
        have hmul:Gm.1 * kk+Gm.1<=M2:=HK.out kk hkb
        obtain⟨rb,da,dn,dc,⟨c2,c4⟩,hk1,hk2,hk3,hF⟩:=hRo.found HR.out.lt hM2 (by omega)
        have HF:=hid hF
        have hk':(kk:Int)<=(dn:Int):=by omega
        clear hRo hF
        go_wp2_with fail
        refine Calls.mono HF.out ?_
        rintro e w6 ⟨b,rfl,hb1,hb0⟩
        clear c2 c4 HF
        cases b with
        | false=>
         have H6:=hid (hb0 rfl)
         clear hb0 hb1
         go_wp2_with fail
         go_roundw
         case rel=>exact⟨kk+1,by go_num,H6.out.more (by rw[Nat.mul_succ];exact Nat.le_refl _)⟩
         case measure=>simp[intOf];omega
        | true=>
         obtain⟨rn,da,dn,dc,⟨x2,n0,n1,n2⟩,x4,y1,y2,hNw⟩:=((hb1 rfl).low (Below.refl _ _).drew).new HR.out.lt hmul
         change w6.cell? ⟨ob,2,none⟩=some (.pointer (some ⟨rn,0,none⟩)) at x2
         change w6.cell? ⟨rn,0,none⟩=some (.int .i64 (Gm.1:Int)) at n0
         change w6.cell? ⟨rn,1,none⟩=some (.int .i64 (Gm.2.1:Int)) at n1
         change w6.cell? ⟨rn,2,none⟩=some (.int .i64 (Gm.2.2:Int)) at n2
         change w6.cell? ⟨rn,4,none⟩=some (.slice da dn dc) at x4
         have HN:=hid hNw
         have hk9:¬(dn:Int)<(kk:Int):=by omega
         have hle1:(kk:Int)<=(dc:Int):=by omega
         clear hb0 hb1 hNw
         go_wp2_with fail
         refine Gz (S:=fun w'=>w'.cell? ⟨ob,2,none⟩=some (.pointer (some ⟨rn,0,none⟩))/\w'.cell? ⟨rn,0,none⟩=some (.int .i64 (Gm.1:Int))/\w'.cell? ⟨rn,1,none⟩=some (.int .i64 (Gm.2.1:Int))/\w'.cell? ⟨rn,2,none⟩=some (.int .i64 (Gm.2.2:Int))) ⟨x2,n0,n1,n2⟩ (fun hSS=>?_)
         refine Ti 0 rfl ?_
         try simp only[Act.put,zA,zB,zC]
         refine Ti 1 rfl ?_
         refine Ti 2 rfl ?_
         refine Ti 3 rfl ?_
         refine Ti 4 rfl ?_
         try simp only[Act.put,zA,zB,zC]
         refine Ti 5 rfl ?_
         refine Ti 6 rfl ?_
         refine Ti 7 rfl ?_
         refine Ti 8 rfl ?_
         try simp only[Act.put,zA,zB,zC]
         refine Ti 9 rfl ?_
         refine Ti 10 rfl ?_
         refine Ti 11 rfl ?_
         refine Ti 12 rfl ?_
         try simp only[Act.put,zA,zB,zC]
         refine Ti 13 rfl ?_
         refine Ti 14 rfl ?_
         refine Ti 15 rfl ?_
         refine Ti 16 rfl ?_
         try simp only[Act.put,zA,zB,zC]
         refine Ti 17 rfl ?_
         refine Ti 18 rfl ?_
         refine Ti 19 rfl ?_
         refine Ti 20 rfl ?_
         try simp only[Act.put,zA,zB,zC]
         refine Ri 21 rfl (fun K9 hK9=>?_)
         go_simp
         go_at_call 23
         refine Calls.mono HN.out ?_
         rintro e w8 ⟨r2,rfl,hNP⟩
         obtain⟨⟨z2,z0,z1,z3⟩,z4,⟨old4,z5⟩,zf,hNP⟩:=hNP
         refine hK9.out _ _ ⟨z2,z0,z1,z3⟩ (fun hSS=>?_)
         try simp only[Act.put,zA,zB,zC]
         refine Ti 22 rfl ?_
         try simp only[Act.put,zA,zB,zC]
         refine Dn ?_
         clear hSS HN x2 n0 n1 n2 x4
         obtain⟨w9,hw9⟩:∃w9,w9=w8.setCell ⟨r2,4,none⟩ (.slice da kk kk):=⟨_,rfl⟩
         obtain⟨⟨old5,t5⟩,tf,hNP2⟩:=hNP w9 hw9
         obtain⟨wB,hwB⟩:∃wB,wB=w9.setCell ⟨r2,5,none⟩ (.int .i64 (kk:Int)):=⟨_,rfl⟩
         have hT:=hNP2 wB hwB
         have hsz:wB.heap.size=w8.heap.size:=by rw[hwB,hw9];simp
         rw[hsz,hwB,hw9]at hT
         rw[hw9]at t5 tf
         have FIN:=hid hT
         clear hNP hNP2 hT hwB hw9 hsz wB w9
         go_wp2_with fail
         go_roundw
         case rel=>exact⟨i+1,_,by omega,by go_num,rfl,HMM.out ▸ HR.out.back _ _ _ FIN.out⟩
         case measure=>simp[intOf];omega
      ·obtain rfl:=hk rfl
       obtain⟨l0,l1,l2,l3,r0,r1,r2,hKB⟩:=HR.out.cb wx bA
       have HAG:=hid (hO.again HR.out.lt q.ka q.kn q.kc HR.out.kn hKB re)
       clear hO hKB hk bA
       go_wp2_with fail
       refine Calls.mono HAG.out ?_
       rintro e w6 ⟨iv,rfl,b6,h6⟩
       clear l0 l1 l2 l3 r0 r1 r2 HAG
       obtain⟨l0,l1,l2,l3,r0,r1,r2,hKB⟩:=HR.out.cb w6 b6
       have H6:=hid h6
       clear b6 h6 hKB
       go_wp2_with fail
       refine Calls.mono H6.out ?_
       rintro e w7 ⟨p7,st7,rfl,b7,h7⟩
       have H7:=hid (And.intro b7 h7)
       clear H6 b7 h7 l0 l1 l2 l3 r0 r1 r2
       go_wp2_with fail
       go_roundw
       case rel=>exact⟨p7,rfl,rfl,(fun e=>by cases e),H7.out.1,.inl ⟨st7,rfl,H7.out.2⟩⟩
       case measure=>show 0<1;decide
  ·have hie:i=N:=by omega
   have hi':¬(i:Int)<(N:Int):=by omega
   have FIN:=hid (HB.out.fin wo hP.base)
   subst hie
   clear hP HB HLN HMB HG
   go_wp2
   exact FIN.out
end Go.Proofs.YthfojpcibnfmgaaGreat
