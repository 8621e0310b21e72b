import Derived.Test.YthfojpcibnfmgaaGreatH40
set_option maxRecDepth 100000
set_option maxHeartbeats 16000000
namespace Go.Proofs.YthfojpcibnfmgaaGreat
variable {w w' w1 w2:World}
variable {r':Ra}
variable {X X' Y Y':Nat->Prop}
variable {K' L M n:Nat}
variable {d':Pd}
variable {s':Js}
variable {rv tv:Value}
variable {who:Option Bool}
variable {zs:List Int}
open Go.RowKit Go.Deep
theorem DqR.ref{ob:Nat}{v:Dv}(h:DqR w ob v)(hb:But (Rset v.r) w w')(rf:Rsd w' v.nb v.fr v.bl r')(hrb:r'.rb=v.r.rb)(hg:Rgr v.r r' w)(hall:∀t,v.r.q=some t->(∃t',r'.q=some t'/\t'.g=t.g)\/∃pv mv,Rt5 w' t.g v.r.rb pv mv true):DqR w' ob { v with r:=r' }/\∀k,Dset ob { v with r:=r' } k->Dset ob v k\/w.heap.size<=k:=by
 have hk:∀(k:Nat) (cur:Array Value) (e:TypeId),w.heap[k]?=some (Obj.cells cur e (0,0))->e≠67->e≠9->e≠60->e≠150->e≠115->e≠3->¬Rset v.r k:=fun k cur e hc n1 n2 n3 n4 n5 n6 hk=>by
  obtain⟨cur2,e2,hc2,he⟩:=h.rf.kinds hk
  have:e=e2:=by
   rw[hc]at hc2
   injection hc2 with hc2
   injection hc2
  subst this
  rcases he with rfl | rfl | rfl | rfl | rfl | rfl <;> contradiction
 refine⟨⟨?_,rf,?_,?_,fun x hx=>?_⟩,fun k hk=>?_⟩
 ·show LS (ptrV v.p,ptrV v.st,ptrV r'.rb,v.tsv,v.rsv) w' ob v.bv
  rw[hrb]
  obtain⟨⟨Nn,h1⟩,h2⟩:=id h.ls
  refine h.ls.but hb (fun k e=>?_)
  rcases e with rfl | e
  ·exact hk _ _ _ h1 (by decide) (by decide) (by decide) (by decide) (by decide) (by decide)
  ·rcases h2 with h2 | ⟨G,Mm,ys,h3,_,h5,_⟩
   ·rw[h2]at e
    cases e
   ·rw[h3]at e
    have:G=k:=by simpa [Value.ownBlock] using e
    subst this
    exact hk _ _ _ h5 (by decide) (by decide) (by decide) (by decide) (by decide) (by decide)
 ·refine owns_keep h.ts (fun k e=>?_)
  obtain⟨cur,hc⟩:=rowKind h.ts e
  exact hb.block k (Array.getElem?_eq_some_iff.1 hc).1 (hk _ _ _ hc (by decide) (by decide) (by decide) (by decide) (by decide) (by decide))
 ·refine owns_keep h.rs (fun k e=>?_)
  obtain⟨cur,hc⟩:=rowKind h.rs e
  exact hb.block k (Array.getElem?_eq_some_iff.1 hc).1 (hk _ _ _ hc (by decide) (by decide) (by decide) (by decide) (by decide) (by decide))
 ·show (∃t,r'.q=some t/\x.2=t.g)\/∃pv mv,Rt5 w' x.2 r'.rb pv mv true
  rw[hrb]
  rcases h.all x hx with ⟨t,ht,e⟩ | ⟨pv,mv,hx2⟩
  ·rcases hall t ht with ⟨t',q1,q2⟩ | q
   ·exact .inl ⟨t',q1,e.trans q2.symm⟩
   ·exact .inr (e ▸ q)
  ·refine .inr ⟨pv,mv,hx2.keep (hb.block x.2 hx2.lt (fun e=>?_))⟩
   have h115:∀(cur:Array Value) (e9:TypeId),w.heap[x.2]?=some (Obj.cells cur e9 (0,0))->e9=115:=fun cur e9 hc=>by
    unfold Rt5 at hx2
    rw[hx2]at hc
    injection hc with hc
    injection hc with _ hc
    exact hc.symm
   rcases e with e | e | e | ⟨y,hy,e⟩ | ⟨q,hq,e | e | e⟩
   ·rw[e]at h115
    exact absurd (h115 _ _ h.rf.sto) (by decide)
   ·obtain⟨cur,hc⟩:=rowKind h.rf.fst e
    exact absurd (h115 _ _ hc) (by decide)
   ·obtain⟨cur,hc⟩:=rowKind h.rf.don e
    exact absurd (h115 _ _ hc) (by decide)
   ·obtain⟨cur,e9,hc,_⟩:=h.rf.kinds (k:=x.2) (.inr (.inr (.inr (.inl ⟨y,hy,e⟩))))
    obtain⟨i,hi⟩:=List.mem_iff_getElem?.1 hy
    obtain⟨ps,hps⟩:∃ps,v.r.Ds[i]?=some ps:=⟨_,List.getElem?_eq_getElem (by have:=(List.getElem?_eq_some_iff.1 hi).1;rw[<- h.rf.rsl];exact this)⟩
    obtain⟨cur2,hc2⟩:=rowKind (h.rf.din i y ps hi hps) (k:=y.1) rfl
    rw[<- e]at hc2
    exact absurd (h115 _ _ hc2) (by decide)
   ·have hb2:=(h.rf.tx q hq).blk
    unfold Rt5 at hx2 hb2
    rw[e,hb2]at hx2
    injection hx2 with hx2
    injection hx2 with hx2
    simp at hx2
   ·obtain⟨cur,hc⟩:=rowKind (h.rf.tx q hq).pr e
    exact absurd (h115 _ _ hc) (by decide)
   ·obtain⟨cur,hc⟩:=rowKind (h.rf.tx q hq).mr e
    exact absurd (h115 _ _ hc) (by decide)
 ·rcases hk with hk | hk | hk | hk | hk
  ·exact (hg k hk).imp .inl id
  ·exact .inl (.inr (.inl hk))
  ·exact .inl (.inr (.inr (.inl hk)))
  ·exact .inl (.inr (.inr (.inr (.inl hk))))
  ·exact .inl (.inr (.inr (.inr (.inr hk))))
theorem Dq.both{B:Nat->Prop}{ob:Nat}{v:Dv}(h:Dq Y w ob v)(hB:∀k,B k ↔ Ball Y ob v k)(hb1:But Y w w1)(hg1:Gr Y Y' w)(hy1:∀k,Y' k->k<w1.heap.size){o':Option OT}(hp:StO Y' w1 v.j v.c v.p v.st v.nb K' v.fr v.bl d' s' o')(hpa:∀q,v.o=some q->(∃q',o'=some q'/\q'.t=q.t)\/(Txb w1 q.t v.j .nilIface v.st (.pointer none)/\¬Y' q.t))(hb2:But (Rset v.r) w1 w2)(rf:Rsd w2 v.nb v.fr v.bl r')(hrb:r'.rb=v.r.rb)(hg2:Rgr v.r r' w1)(hra:∀t,v.r.q=some t->(∃t',r'.q=some t'/\t'.g=t.g)\/∃pv mv,Rt5 w2 t.g v.r.rb pv mv true)(hlk:∀x∈v.xs,(∃q,o'=some q/\x.1=q.t) ↔ ∃t,r'.q=some t/\x.2=t.g)(hR:Rl M { v with K:=K',d:=d',s:=s',o:=o',r:=r' }):DskS B w w2 ob M:=by
 obtain⟨hR1,hN1⟩:=h.prog hb1 hg1
 obtain⟨hR2,hD2⟩:=hR1.ref hb2 rf hrb hg2 hra
 have hs1:=hb1.size
 have hs2:=hb2.size
 have hP1:DqP Y' w1 { v with K:=K',d:=d',s:=s',o:=o' }:=⟨hp,fun x hx=>?_,hy1⟩
 rotate_left
 ·rcases h.P.over hb1 hg1 x hx with ⟨q,hq,e⟩ | q
  ·rcases hpa q hq with ⟨q',q1,q2⟩ | ⟨q1,q2⟩
   ·exact .inl ⟨q',q1,e.trans q2.symm⟩
   ·exact .inr ⟨e ▸ q1,e ▸ q2⟩
  ·exact .inr q
 have hP2:=hP1.keep hb2 (fun k hl e1 e2=>hN1 k (.inl e1) e2) (fun k e _=>by
  obtain⟨cur,e9,hc,he,_⟩:=hR1.kinds (k:=k) (.inl e)
  exact⟨cur,e9,hc,he⟩)
 refine h.close hB (v':={ v with K:=K',d:=d',s:=s',o:=o',r:=r' }) ⟨⟨hP2.pg,hP2.all,hP2.yb⟩,⟨hR2.ls,hR2.rf,hR2.ts,hR2.rs,hR2.all⟩,fun k hk e=>?_,hlk⟩ hR hg1 (fun k hk=>?_) (fun x hx=>.inl hx) ?_
 ·rcases hD2 k hk with q | q
  ·exact hN1 k q e
  ·have:=hy1 k e
   omega
 ·rcases hD2 k hk with q | q
  ·exact .inl q
  ·exact .inr (by omega)
 ·exact (hb1.mono (fun k _ e=>.inl e)).comp hb2 (fun k _ e=>.inr (.inl e))
theorem Rl.setOp{v:Dv}(h:Rl M v)(hK:K'<=M+1){q:OT}{t:RT}(hm:Mq v.nb v.fr v.bl q.a q.ms q.val t.ps t.ks)(h1:q.n+q.ss.length<=2 * (M+1))(h2:t.ps.length<=M+1)(h3:t.ks.length<=M+1)(e1:r'.q=some t)(e2:r'.off=v.r.off)(e3:r'.Fs=v.r.Fs)(e4:r'.Ds=v.r.Ds):Rl (M+1) { v with K:=K',o:=some q,r:=r' } where
 off:=e2.trans h.off
 on:=fun e=>by
  obtain⟨q1,home,Ts,q2,q3,q4⟩:=h.on e
  exact⟨q1,home,Ts,q2,(by show Hk v.nb v.fr v.bl home Ts r'.Fs r'.Ds;rw[e3,e4];exact q3),by omega⟩
 pl:=h.pl
 both:=by
  show (some q).isSome=r'.q.isSome
  rw[e1]
  rfl
 op:=fun q9 t9 e8 e9=>by
  cases e8
  have e7:r'.q=some t9:=e9
  rw[e1]at e7
  cases e7
  exact⟨hm,h1,h2,h3⟩
 kb:=hK
 db:=by
  show r'.Ds.length<=M+1/\∀ps∈r'.Ds,ps.length<=M+1
  rw[e4]
  exact⟨by have:=h.db.1;omega,fun ps hps=>by have:=h.db.2 ps hps;omega⟩
 xb:=by have:=h.xb;simp only;omega
 lo:=h.lo
 fit:=h.fit
 nb:=h.nb
theorem Rl.opn{v:Dv}(h:Rl M v){q:OT}(hq:v.o=some q):∃t,v.r.q=some t:=Option.isSome_iff_exists.1 (h.both ▸ (by rw[hq];rfl))
theorem Dq.markBoth{B:Nat->Prop}{ob:Nat}{v:Dv}(h:Dq Y w ob v)(hr:Rl M v)(hB:∀k,B k ↔ Ball Y ob v k)(hM:M<=268435455)(hp:Pkd w v tv rv who) :
  Calls Tryz.prog 29 #[tv] w fun e w1=>∃m code,e=.returned (.tuple #[.int .i64 m,.int .i64 code])/\But Y w w1/\Calls Tryz.prog 79 #[rv] w1 fun e' w2=>e'=.returned (.tuple #[.int .i64 m,.int .i64 code])/\DskS B w w2 ob (M+1):=by
 have hkb:=hr.kb
 refine Calls.mono (h.P.pg.mark (fun q hq=>?_) hp.1) ?_
 ·obtain⟨t,ht⟩:=hr.opn hq
  obtain⟨hm,_,_,h4⟩:=hr.op q t hq ht
  have:=hm.len
  omega
 rintro e w1 ⟨Y',o',rfl,q1,q2,q3,q4,q5,q6⟩
 obtain⟨hR1,_⟩:=h.prog q6 q5
 refine⟨_,_,rfl,q6,?_⟩
 refine Calls.mono (hR1.rf.mark (fun t ht=>?_) (hp.ref h q6)) ?_
 ·obtain⟨q,hq⟩:=Option.isSome_iff_exists.1 (hr.both.trans (by rw[ht];rfl))
  obtain⟨_,_,_,h4⟩:=hr.op q t hq ht
  omega
 rintro e' w2 ⟨rfl,r',s1,s2,s3,s4,s5⟩
 rw[hr.off]at s4 s5 ⊢
 by_cases hc:askW who v.d.off=0
 ·obtain⟨q,hq,rfl⟩:=q3 hc
  obtain⟨t,mv',ht,rfl⟩:=s5 hc
  obtain⟨hm,h2,h3,h4⟩:=hr.op q t hq ht
  have hl:=hm.len
  refine⟨by simp[hc,ksOf,ht,msOf,hq,hl],?_⟩
  refine h.both hB q6 q5 q4 q1 (fun q9 e9=>.inl ⟨_,rfl,by rw[hq]at e9;cases e9;rfl⟩) s2 s1 rfl s3 (fun t9 e9=>.inl ⟨_,rfl,by rw[ht]at e9;cases e9;rfl⟩) (fun x hx=>?_) (hr.setOp (v:=v) (K':=v.K) (by omega) (hm.mark _) ?_ ?_ ?_ rfl hr.off.symm rfl rfl)
  ·have:=h.lk x hx
   rw[hq,ht]at this
   simpa using this
  ·simp only
   omega
  ·simp only
   omega
  ·simp only[List.length_append,List.length_cons,List.length_nil]
   omega
 ·obtain rfl:=q2 hc
  obtain rfl:=s4 hc
  refine⟨by simp[hc],?_⟩
  exact h.both hB q6 q5 q4 q1 (fun q9 e9=>.inl ⟨q9,e9,rfl⟩) s2 s1 rfl s3 (fun t9 e9=>.inl ⟨t9,e9,rfl⟩) h.lk (hr.up (by omega))
theorem Dq.backBoth{B:Nat->Prop}{ob:Nat}{v:Dv}(h:Dq Y w ob v)(hr:Rl M v)(hB:∀k,B k ↔ Ball Y ob v k)(hM:M<=268435455)(hp:Pkd w v tv rv who)(k:Int) :
  Calls Tryz.prog 33 #[tv,.int .i64 k] w fun e w1=>∃code,e=.returned (.int .i64 code)/\But Y w w1/\Calls Tryz.prog 80 #[rv,.int .i64 k] w1 fun e' w2=>e'=.returned (.int .i64 code)/\DskS B w w2 ob (M+1):=by
 have hkb:=hr.kb
 refine Calls.mono (h.P.pg.back hr.nb (fun q hq=>?_) hp.1 k) ?_
 ·obtain⟨t,ht⟩:=hr.opn hq
  obtain⟨hm,h2,_,h4⟩:=hr.op q t hq ht
  have:=hm.len
  omega
 rintro e w1 ⟨Y',o',rfl,q1,q2,q3,q4,q5,q6⟩
 obtain⟨hR1,_⟩:=h.prog q6 q5
 refine⟨_,rfl,q6,?_⟩
 refine Calls.mono (hR1.rf.back (fun t ht=>?_) (hp.ref h q6) k) ?_
 ·obtain⟨q,hq⟩:=Option.isSome_iff_exists.1 (hr.both.trans (by rw[ht];rfl))
  obtain⟨hm,_,_,h4⟩:=hr.op q t hq ht
  refine⟨by omega,fun i kk hk=>?_⟩
  obtain⟨⟨pp,b⟩,hb⟩:∃r,q.ms[i]?=some r:=⟨_,List.getElem?_eq_getElem (by rw[<- hm.len];exact (List.getElem?_eq_some_iff.1 hk).1)⟩
  exact (hm.at_ i kk pp b hk hb).1
 rintro e' w2 ⟨rfl,r',s1,s2,s3,s4,s5⟩
 have hlen:(ksOf v.r).length=(msOf v.o).length:=by
  cases ho:v.o with
  | none=>
   have:v.r.q=none:=by
    have:=hr.both
    rw[ho]at this
    cases hq:v.r.q
    ·rfl
    ·rw[hq]at this;cases this
   simp[ksOf,msOf,this]
  | some q=>
   obtain⟨t,ht⟩:=hr.opn ho
   obtain⟨hm,_⟩:=hr.op q t ho ht
   simp[ksOf,msOf,ht,hm.len]
 rw[hr.off,hlen]at s4 s5 ⊢
 refine⟨rfl,?_⟩
 by_cases hc:bkC v.d.off who (msOf v.o).length k=0
 ·obtain⟨q,kn,n',pp,b,hq,rfl,hms,hn',rfl⟩:=q3 hc
  obtain⟨t,kn2,p2,pv',mv',ht,e2,hks,rfl⟩:=s5 hc
  obtain rfl:kn=kn2:=by omega
  obtain⟨hm,h2,h3,h4⟩:=hr.op q t hq ht
  refine h.both hB q6 q5 q4 q1 (fun q9 e9=>.inl ⟨_,rfl,by rw[hq]at e9;cases e9;rfl⟩) s2 s1 rfl s3 (fun t9 e9=>.inl ⟨_,rfl,by rw[ht]at e9;cases e9;rfl⟩) (fun x hx=>?_) (hr.setOp (v:=v) (K':=v.K) (by omega) (hm.back hks hms) ?_ ?_ ?_ rfl hr.off.symm rfl rfl)
  ·have:=h.lk x hx
   rw[hq,ht]at this
   simpa using this
  ·simp only[List.length_take]
   omega
  ·simp only[List.length_take]
   omega
  ·simp only[List.length_take]
   omega
 ·obtain rfl:=q2 hc
  obtain rfl:=s4 hc
  exact h.both hB q6 q5 q4 q1 (fun q9 e9=>.inl ⟨q9,e9,rfl⟩) s2 s1 rfl s3 (fun t9 e9=>.inl ⟨t9,e9,rfl⟩) h.lk (hr.up (by omega))
theorem Rl.endOp{v:Dv}(h:Rl M v)(hK:K'<=M+1)(ho:d'.off=v.d.off)(e1:r'.q=none)(e2:r'.off=v.r.off)(hon:d'.off=false->d'.fu=-1/\∃home Ts,On d' s' v.nb v.fr v.bl 0 home Ts/\Hk v.nb v.fr v.bl home Ts r'.Fs r'.Ds/\Ts.length<=M+1)(hpl:d'.puts.length<=v.nb)(hD:r'.Ds.length<=M+1/\∀ps∈r'.Ds,ps.length<=M+1):Rl (M+1) { v with K:=K',d:=d',s:=s',o:=none,r:=r' } where
 off:=e2.trans (h.off.trans ho.symm)
 on:=hon
 pl:=hpl
 both:=by
  show none.isSome=r'.q.isSome
  rw[e1]
  rfl
 op:=fun q9 t9 e1 _=>by cases e1
 kb:=hK
 db:=hD
 xb:=by have:=h.xb;simp only;omega
 lo:=h.lo
 fit:=h.fit
 nb:=h.nb
theorem Dq.abortBoth{B:Nat->Prop}{ob:Nat}{v:Dv}(h:Dq Y w ob v)(hr:Rl M v)(hB:∀k,B k ↔ Ball Y ob v k)(hM:M<=268435455)(hp:Pkd w v tv rv who) :
  Calls Tryz.prog 35 #[tv] w fun e w1=>∃code,e=.returned (.int .i64 code)/\But Y w w1/\Calls Tryz.prog 82 #[rv] w1 fun e' w2=>e'=.returned (.int .i64 code)/\DskS B w w2 ob (M+1):=by
 have hkb:=hr.kb
 have _:=hM
 refine Calls.mono (h.P.pg.abort hp.1) ?_
 rintro e w1 ⟨Y',o',rfl,q1,q2,q3,q4,q5,q6⟩
 obtain⟨hR1,_⟩:=h.prog q6 q5
 refine⟨_,rfl,q6,?_⟩
 refine Calls.mono (hR1.rf.abort (hp.ref h q6)) ?_
 rintro e' w2 ⟨rfl,r',s1,s2,s3,s4,s5⟩
 rw[hr.off]at s4 s5 ⊢
 refine⟨rfl,?_⟩
 by_cases hc:askW who v.d.off=0
 ·obtain⟨q,hq,rfl,hT,hN⟩:=q3 hc
  obtain⟨t,ht,rfl,pv,mv,hO⟩:=s5 hc
  refine h.both hB q6 q5 q4 q1 (fun q9 e9=>.inr (by rw[hq]at e9;cases e9;exact⟨hT,hN⟩)) s2 s1 rfl s3 (fun t9 e9=>.inr (by rw[ht]at e9;cases e9;exact⟨pv,mv,hO⟩)) (fun x hx=>by simp) (hr.endOp (v:=v) (K':=v.K) (by omega) rfl rfl hr.off.symm (fun e=>?_) hr.pl ?_)
  ·obtain⟨q1,home,Ts,q2,q3,q4⟩:=hr.on e
   exact⟨q1,home,Ts,q2,q3,by omega⟩
  ·exact⟨by have:=hr.db.1;simp only;omega,fun ps hps=>by have:=hr.db.2 ps hps;omega⟩
 ·obtain rfl:=q2 hc
  obtain rfl:=s4 hc
  exact h.both hB q6 q5 q4 q1 (fun q9 e9=>.inl ⟨q9,e9,rfl⟩) s2 s1 rfl s3 (fun t9 e9=>.inl ⟨t9,e9,rfl⟩) h.lk (hr.up (by omega))
theorem Dq.commitBoth{B:Nat->Prop}{ob:Nat}{v:Dv}(h:Dq Y w ob v)(hr:Rl M v)(hB:∀k,B k ↔ Ball Y ob v k)(hM:M<=268435455)(hp:Pkd w v tv rv who) :
  Calls Tryz.prog 34 #[tv] w fun e w1=>∃code,e=.returned (.int .i64 code)/\But Y w w1/\Calls Tryz.prog 81 #[rv] w1 fun e' w2=>e'=.returned (.int .i64 code)/\DskS B w w2 ob (M+1):=by
 have hkb:=hr.kb
 have hnb:=hr.nb
 have hfit:=hr.fit
 obtain⟨home,Ts,hon,hTs⟩:∃home Ts,(v.d.off=false->v.d.fu=-1/\On v.d v.s v.nb v.fr v.bl 0 home Ts/\Hk v.nb v.fr v.bl home Ts v.r.Fs v.r.Ds)/\Ts.length<=M:=by
  cases ho:v.d.off with
  | true=>exact⟨fun _=>[],[],fun e=>by simp at e,by simp⟩
  | false=>
   obtain⟨q1,home,Ts,q2,q3,q4⟩:=hr.on ho
   exact⟨home,Ts,fun _=>⟨q1,q2,q3⟩,q4⟩
 refine Calls.mono (h.P.pg.commit hr.lo hfit hnb hp.1 (ps:=psOf v.r) (fun q hq=>?_) (fun e=>⟨(hon e).1,(hon e).2.1⟩) (by omega)) ?_
 ·obtain⟨t,ht⟩:=hr.opn hq
  obtain⟨hm,_⟩:=hr.op q t hq ht
  have:psOf v.r=t.ps:=by simp[psOf,ht]
  rw[this]
  exact hm.now
 rintro e w1 ⟨Y',o',d',s',rfl,q1,q0,q2,q3,q4,q5,q6⟩
 obtain⟨hR1,_⟩:=h.prog q6 q5
 refine⟨_,rfl,q6,?_⟩
 refine Calls.mono (hR1.rf.commit hr.lo (by omega) (hr.ps hM) (by have:=hr.db.1;omega) (hp.ref h q6)) ?_
 rintro e' w2 ⟨rfl,r',s1,s2,s3,s4,s5⟩
 rw[hr.off]at s4 s5 ⊢
 refine⟨rfl,?_⟩
 by_cases hc:askW who v.d.off=0
 ·obtain⟨q,hq,rfl,hT,hN,hfu,hcase⟩:=q3 hc
  obtain⟨t,dv',rs',ht,⟨pv,mv,hO⟩,rfl⟩:=s5 hc
  obtain⟨hm,h2,h3,h4⟩:=hr.op q t hq ht
  have hps:psOf v.r=t.ps:=by simp[psOf,ht]
  rw[hps]at hcase
  obtain⟨_,hoff⟩:=askW_zero hc
  obtain⟨hfu0,hO0,hK0⟩:=hon hoff
  have hdb:=hr.db
  refine h.both hB q6 q5 q4 q1 (fun q9 e9=>.inr (by rw[hq]at e9;cases e9;exact⟨hT,hN⟩)) s2 s1 rfl s3 (fun t9 e9=>.inr (by rw[ht]at e9;cases e9;exact⟨pv,mv,hO⟩)) (fun x hx=>by simp) (hr.endOp (v:=v) (K':=v.K) (by omega) q0 rfl hr.off.symm (fun e=>⟨hfu,?_⟩) ?_ ?_)
  ·rcases hcase with ⟨hl,rfl,rfl⟩ | ⟨hl,Ts',r1,r2,r3⟩
   ·refine⟨home,Ts,hO0,?_,by omega⟩
    rw[if_neg (fun e=>by omega)]
    exact hK0
   ·by_cases hz:0<cntU t.ps t.ps.length
    ·refine⟨home,Ts',r1,?_,by omega⟩
     rw[if_pos ⟨hl,hz⟩]
     exact hK0.commit hm.now r3
    ·refine⟨home,Ts',r1,?_,by omega⟩
     rw[if_neg (fun e=>hz e.2)]
     exact hK0.same hm.now r3 (by omega)
  ·rcases hcase with ⟨hl,rfl,rfl⟩ | ⟨hl,Ts',r1,r2,r3⟩
   ·exact hr.pl
   ·exact r1.puts hr.lo hfit hnb
  ·split
   ·refine⟨by simp;omega,fun ps hps=>?_⟩
    rcases List.mem_append.1 hps with q9 | q9
    ·have:=hdb.2 ps q9
     omega
    ·obtain rfl:ps=t.ps:=by simpa using q9
     omega
   ·exact⟨Nat.le_trans hdb.1 (Nat.le_succ M),fun ps hps=>Nat.le_trans (hdb.2 ps hps) (Nat.le_succ M)⟩
 ·obtain⟨rfl,rfl,rfl⟩:=q2 hc
  obtain rfl:=s4 hc
  exact h.both hB q6 q5 q4 q1 (fun q9 e9=>.inl ⟨q9,e9,rfl⟩) s2 s1 rfl s3 (fun t9 e9=>.inl ⟨t9,e9,rfl⟩) h.lk (hr.up (by omega))
open Go.RowKit Go.Deep
theorem Dq.both2{ob:Nat}{v:Dv}(h:Dq Y w ob v)(hb1:But Y w w1)(hg1:Gr Y Y' w)(hy1:∀k,Y' k->k<w1.heap.size){o':Option OT}(hp:StO Y' w1 v.j v.c v.p v.st v.nb K' v.fr v.bl d' s' o')(hpa:∀q,v.o=some q->(∃q',o'=some q'/\q'.t=q.t)\/(Txb w1 q.t v.j .nilIface v.st (.pointer none)/\¬Y' q.t))(hb2:But (Rset v.r) w1 w2)(rf:Rsd w2 v.nb v.fr v.bl r')(hrb:r'.rb=v.r.rb)(hg2:Rgr v.r r' w1)(hra:∀t,v.r.q=some t->(∃t',r'.q=some t'/\t'.g=t.g)\/∃pv mv,Rt5 w2 t.g v.r.rb pv mv true)(hlk:∀x∈v.xs,(∃q,o'=some q/\x.1=q.t) ↔ ∃t,r'.q=some t/\x.2=t.g):Dq Y' w2 ob { v with K:=K',d:=d',s:=s',o:=o',r:=r' }/\(∀k,Dset ob { v with K:=K',d:=d',s:=s',o:=o',r:=r' } k->Dset ob v k\/w.heap.size<=k)/\But (fun k=>Y k\/Dset ob v k) w w2:=by
 obtain⟨hR1,hN1⟩:=h.prog hb1 hg1
 obtain⟨hR2,hD2⟩:=hR1.ref hb2 rf hrb hg2 hra
 have hs1:=hb1.size
 have hs2:=hb2.size
 have hP1:DqP Y' w1 { v with K:=K',d:=d',s:=s',o:=o' }:=⟨hp,fun x hx=>?_,hy1⟩
 rotate_left
 ·rcases h.P.over hb1 hg1 x hx with ⟨q,hq,e⟩ | q
  ·rcases hpa q hq with ⟨q',q1,q2⟩ | ⟨q1,q2⟩
   ·exact .inl ⟨q',q1,e.trans q2.symm⟩
   ·exact .inr ⟨e ▸ q1,e ▸ q2⟩
  ·exact .inr q
 have hP2:=hP1.keep hb2 (fun k hl e1 e2=>hN1 k (.inl e1) e2) (fun k e _=>by
  obtain⟨cur,e9,hc,he,_⟩:=hR1.kinds (k:=k) (.inl e)
  exact⟨cur,e9,hc,he⟩)
 refine⟨⟨⟨hP2.pg,hP2.all,hP2.yb⟩,⟨hR2.ls,hR2.rf,hR2.ts,hR2.rs,hR2.all⟩,fun k hk e=>?_,hlk⟩,fun k hk=>?_,?_⟩
 ·rcases hD2 k hk with q | q
  ·exact hN1 k q e
  ·have:=hy1 k e
   omega
 ·rcases hD2 k hk with q | q
  ·exact .inl q
  ·exact .inr (by omega)
 ·exact (hb1.mono (fun k _ e=>.inl e)).comp hb2 (fun k _ e=>.inr (.inl e))
theorem Lent.ls{D:DV}{G:Nat}(h:Lent D w L G M n zs):LS D w L (.slice (some ⟨G,0,none⟩) M M):=by
 obtain⟨ys,h1,h2,_⟩:=h.buf
 exact⟨⟨_,h.num⟩,.inr ⟨G,M,ys,rfl,h.ne,h1,h2,h.small⟩⟩
theorem Dq.relend{ob:Nat}{v:Dv}(h:Dq Y w ob v){G Mb:Nat}(hb:But (XL ob v.bv) w w')(hl:LS (ptrV v.p,ptrV v.st,ptrV v.r.rb,v.tsv,v.rsv) w' ob (.slice (some ⟨G,0,none⟩) Mb Mb))(hG:v.bv.ownBlock=some G\/w.heap.size<=G):Dq Y w' ob { v with bv:=.slice (some ⟨G,0,none⟩) Mb Mb }/\∀k,Dset ob { v with bv:=.slice (some ⟨G,0,none⟩) Mb Mb } k->Dset ob v k\/w.heap.size<=k:=by
 have hD:∀k,Dset ob { v with bv:=.slice (some ⟨G,0,none⟩) Mb Mb } k->Dset ob v k\/w.heap.size<=k:=fun k hk=>by
  rcases hk with hk | hk | hk | hk | hk
  ·exact .inl (.inl hk)
  ·rcases hk with hk | hk
   ·exact .inl (.inr (.inl (.inl hk)))
   ·have:G=k:=by simpa [Value.ownBlock] using hk
    subst this
    exact hG.imp (fun e=>.inr (.inl (.inr e))) id
  ·exact .inl (.inr (.inr (.inl hk)))
  ·exact .inl (.inr (.inr (.inr (.inl hk))))
  ·exact .inl (.inr (.inr (.inr (.inr hk))))
 have hXk:∀k,XL ob v.bv k->∃cur e,w.heap[k]?=some (Obj.cells cur e (0,0))/\(e=58\/e=5):=fun k hk=>by
  obtain⟨⟨Nn,h1⟩,h2⟩:=h.R.ls
  rcases hk with rfl | hk
  ·exact⟨_,_,h1,.inl rfl⟩
  ·rcases h2 with h2 | ⟨G9,M9,ys,h3,_,h5,_⟩
   ·rw[h2]at hk
    cases hk
   ·rw[h3]at hk
    have:G9=k:=by simpa [Value.ownBlock] using hk
    subst this
    exact⟨_,_,h5,.inr rfl⟩
 have hne:∀(k:Nat) (cur:Array Value) (e:TypeId),w.heap[k]?=some (Obj.cells cur e (0,0))->e≠58->e≠5->¬XL ob v.bv k:=fun k cur e hc n1 n2 hk=>by
  obtain⟨cur2,e2,hc2,he⟩:=hXk k hk
  rw[hc]at hc2
  injection hc2 with hc2
  injection hc2 with _ hc2
  subst hc2
  exact he.elim n1 n2
 have hP:=h.P.keep hb (fun k _ e1 e2=>h.ny k (.inr (.inl e1)) e2) (fun k e _=>by
  obtain⟨cur,e9,hc,he⟩:=hXk k e
  exact⟨cur,e9,hc,by rcases he with rfl | rfl <;> decide⟩)
 refine⟨⟨⟨hP.pg,hP.all,hP.yb⟩,⟨hl,?_,?_,?_,fun x hx=>?_⟩,fun k hk e=>?_,h.lk⟩,hD⟩
 ·refine h.R.rf.but hb (fun k hk=>?_)
  obtain⟨cur,e,hc,he⟩:=h.R.rf.kinds hk
  exact hne k cur e hc (by rcases he with rfl | rfl | rfl | rfl | rfl | rfl <;> decide) (by rcases he with rfl | rfl | rfl | rfl | rfl | rfl <;> decide)
 ·refine owns_keep h.R.ts (fun k e=>?_)
  obtain⟨cur,hc⟩:=rowKind h.R.ts e
  exact hb.block k (Array.getElem?_eq_some_iff.1 hc).1 (hne _ _ _ hc (by decide) (by decide))
 ·refine owns_keep h.R.rs (fun k e=>?_)
  obtain⟨cur,hc⟩:=rowKind h.R.rs e
  exact hb.block k (Array.getElem?_eq_some_iff.1 hc).1 (hne _ _ _ hc (by decide) (by decide))
 ·exact (h.R.all x hx).imp id (fun⟨pv,mv,q⟩=>⟨pv,mv,q.keep (hb.block x.2 q.lt (hne _ _ _ q (by decide) (by decide)))⟩)
 ·rcases hD k hk with q | q
  ·exact h.ny k q e
  ·have:=h.P.yb k e
   omega
theorem Pkd.lend{ob:Nat}{v:Dv}(h:Pkd w v tv rv who)(hq:Dq Y w ob v){bv':Value}(h':Dq Y w' ob { v with bv:=bv' }):Pkd w' { v with bv:=bv' } tv rv who:=by
 obtain⟨h1,h2,h3⟩:=h
 rcases h3 with rfl | ⟨x,hx,rfl,rfl⟩
 ·exact⟨h1,h2,.inl rfl⟩
 ·have _:=hq
  cases who with
  | none=>exact⟨h1,h2,.inl rfl⟩
  | some b=>
   cases b with
   | true=>exact⟨h1,h2,.inr ⟨x,hx,rfl,rfl⟩⟩
   | false=>
    obtain⟨who2,p1,p2,p3⟩:=h'.pick (x:=x) hx
    cases who2 with
    | none=>cases p1
    | some b2=>
     cases b2 with
     | false=>exact⟨p1,p2,p3⟩
     | true=>
      exfalso
      obtain⟨q,e1,e2⟩:=p1
      obtain⟨t,e3,ht⟩:=h1
      have e4:x.1=q.t:=by
       unfold ptrV at e2
       injection e2 with e2
       injection e2 with e2
       injection e2
      have e5:t=q.t:=by
       unfold ptrV at e3
       injection e3 with e3
       injection e3 with e3
       injection e3 with e3
       omega
      have hp:=hq.P.pg
      have e1':v.o=some q:=e1
      rw[e1']at hp
      obtain⟨_,_,_,_,_,_,q3,_⟩:=hp
      rw[e5]at ht
      unfold Txb at ht q3
      rw[ht]at q3
      injection q3 with q3
      injection q3 with q3
      simp at q3
theorem RdN.anew{a:Option Addr}(h:RdN X w a n zs)(hx:∀k,k<w.heap.size->X' k->X k):RdN X' w a n zs:=h.mono hx
def WrW (B:Nat->Prop) (w:World) (ob M:Nat) (e:Ending) (w':World):Prop:=e=.returned (.bool true)/\DskS B w w' ob M
theorem Dq.write77{B:Nat->Prop}{ob:Nat}{v:Dv}(h:Dq Y w ob v)(hr:Rl M v)(hB:∀k,B k ↔ Ball Y ob v k)(hM:M<=268435455)(hp:Pkd w v tv rv who)(y:Int)(hy1:-9223372036854775808<=y)(hy2:y<=9223372036854775807)(xa:Option Addr)(xn xc:Nat)(zs:List Int)(hxn:xn<=16777216)(hR:RdN B w xa xn zs) :
  Calls Tryz.prog 77 #[ptrV ob,tv,rv,.int .i64 y,.slice xa xn xc] w (WrW B w ob (M+1)):=by
 obtain⟨PO,hPO⟩:∃PO:Ending->World->Prop,PO=WrW B w ob (M+1):=⟨_,rfl⟩
 rw[<- hPO]
 have hpl:=hr.pl
 have hnb:=hr.nb
 have hkb:=hr.kb
 have hXB:∀k,XL ob v.bv k->B k:=fun k e=>(hB k).2 (.inr (.inl (.inr (.inl e))))
 have hYB:∀k,Y k->B k:=fun k e=>(hB k).2 (.inl e)
 have hDB:∀k,Dset ob v k->B k:=fun k e=>(hB k).2 (.inr (.inl e))
 have HL:Hid (Calls Tryz.prog 118 #[.pointer (some ⟨ob,5,none⟩),.slice xa xn xc] w fun e w1=>∃G,e=.returned (.slice (some ⟨G,0,none⟩) xn (2 * xn+70))/\Calls Tryz.prog 32 #[tv,.int .i64 y,.slice (some ⟨G,0,none⟩) xn (2 * xn+70)] w1 fun e w2=>∃code,e=.returned (.int .i64 code)/\Calls Tryz.prog 119 #[rv,.int .i64 y,.slice xa xn xc] w2 fun e w3=>e=.returned (.int .i64 code)/\Calls Tryz.prog 120 #[.pointer (some ⟨ob,5,none⟩),.slice xa xn xc] w3 fun e w4=>e=.returned (.bool true)/\PO (.returned (.bool true)) w4):=by
  refine Calls.mono (Lend_any ob v.bv xa xn xc zs w hxn h.R.ls (hR.anew (fun k _ e=>hXB k e))) ?_
  rintro e w1 ⟨G,Mb,rfl,l1,l2,l3⟩
  refine⟨G,rfl,?_⟩
  obtain⟨h1,hD1⟩:=h.relend l3 l1.ls l2
  have hp1:=hp.lend h h1
  have s1:=l3.size
  have hGY:¬Y G:=fun e=>by
   rcases l2 with q | q
   ·exact h.ny G (.inr (.inl (.inr q))) e
   ·have:=h.P.yb G e
    omega
  have hobY:¬Y ob:=h.ny ob (.inr (.inl (.inl rfl)))
  have hzl:=hR.1
  have hzb:=hR.2.1
  have hRG:RdN Y w1 (some ⟨G,0,none⟩) xn zs:=by
   obtain⟨ys,b1,b2,b3⟩:=l1.buf
   refine⟨hzl,hzb,.inr ⟨G,0,rfl,b1.lt,hGY,fun t ht=>?_⟩⟩
   obtain⟨r1,r2,r3⟩:=l1.rd hzl hzb
   rcases r3 with r3 | ⟨b,off,e1,e2,e3⟩
   ·omega
   ·have e4:G=b/\0=off:=by
     injection e1 with e1
     injection e1 with e1 e1'
     exact⟨e1,e1'⟩
    obtain⟨rfl,rfl⟩:=e4
    exact e3 t ht
  have hRX:RdN (fun k=>B k\/k=G) w xa xn zs:=by
   refine⟨hR.1,hR.2.1,hR.2.2.imp id ?_⟩
   rintro ⟨b,off,e1,e2,e3,e4⟩
   refine⟨b,off,e1,e2,fun e=>?_,e4⟩
   rcases e with e | rfl
   ·exact e3 e
   ·rcases l2 with q | q
    ·exact e3 (hXB _ (.inr q))
    ·omega
  have hR1:=hRX.but (l3.mono (fun k _ e=>Or.inl (hXB k e)))
  refine Calls.mono (h1.P.pg.write hr.fit (show v.d.puts.length<=1073741824 by omega) (show v.K<4611686018427387904 by omega) hnb (fun q hq=>?_) hp1.1 y hy1 hy2 (some ⟨G,0,none⟩) xn (2 * xn+70) zs hRG) ?_
  ·obtain⟨t,ht⟩:=hr.opn hq
   obtain⟨_,h2,_⟩:=hr.op q t hq ht
   omega
  rintro e w2 ⟨Y',o',rfl,q1,q2,q3,q4,q5,q6⟩
  refine⟨_,rfl,?_⟩
  have hR2:=hR1.but (q6.mono (fun k _ e=>Or.inl (hYB k e)))
  obtain⟨hRr2,hNr2⟩:=h1.prog q6 q5
  refine Calls.mono (hRr2.rf.write hnb hr.fit (hr.ps hM) (hp1.ref h1 q6) y xa xn xc zs (hR2.anew (fun k _ e=>Or.inl (hDB k (.inl e))))) ?_
  rintro e w3 ⟨rfl,r',s1,s2,s3,s4,s5⟩
  have hoff:v.r.off=v.d.off:=hr.off
  have hwc:wrC v.nb v.fr v.bl v.r.off who y xn=wrC v.nb v.fr v.bl v.d.off who y xn:=by rw[hoff]
  refine⟨congrArg (fun z=>Ending.returned (.int .i64 z)) hwc,?_⟩
  have hR3:=hR2.but (s2.mono (fun k _ e=>Or.inl (hDB k (.inl e))))
  have L2:=l1.but q6 hobY hGY
  have hnR:∀(k:Nat) (cur:Array Value) (e:TypeId),w2.heap[k]?=some (Obj.cells cur e (0,0))->(e=58\/e=5)->¬Rset v.r k:=fun k cur e hc he hk=>by
   obtain⟨cur2,e2,hc2,he2⟩:=hRr2.rf.kinds hk
   rw[hc]at hc2
   injection hc2 with hc2
   injection hc2 with _ hc2
   subst hc2
   rcases he with rfl | rfl <;> rcases he2 with he2 | he2 | he2 | he2 | he2 | he2 <;> exact absurd he2 (by decide)
  have hobR:¬Rset v.r ob:=hnR ob _ _ L2.num (.inl rfl)
  have hGR:¬Rset v.r G:=by
   obtain⟨ys,b1,_⟩:=L2.buf
   exact hnR G _ _ b1 (.inr rfl)
  have L3:=L2.but s2 hobR hGR
  refine Calls.mono (Back_any ob G Mb xa xn xc zs w3 hxn L3 (hR3.anew (fun k _ e=>e.elim (fun q=>Or.inl (q ▸ hXB ob (.inl rfl))) Or.inr))) ?_
  rintro e w4 ⟨rfl,b1,b2⟩
  refine⟨rfl,?_⟩
  rw[hPO]
  refine⟨rfl,?_⟩
  have s2s:=q6.size
  have s3s:=s2.size
  have s4s:=b2.size
  have FINI:∀(hrb:r'.rb=v.r.rb) (D3:Dq Y' w3 ob { v with bv:=.slice (some ⟨G,0,none⟩) Mb Mb,K:=v.K+1,o:=o',r:=r' }) (g3:∀k,Dset ob { v with bv:=.slice (some ⟨G,0,none⟩) Mb Mb,K:=v.K+1,o:=o',r:=r' } k->Dset ob { v with bv:=.slice (some ⟨G,0,none⟩) Mb Mb } k\/w1.heap.size<=k) (c3:But (fun k=>Y k\/Dset ob { v with bv:=.slice (some ⟨G,0,none⟩) Mb Mb } k) w1 w3) (rl:Rl (M+1) { v with bv:=.slice (some ⟨G,0,none⟩) Mb Mb,K:=v.K+1,o:=o',r:=r' }),DskS B w w4 ob (M+1):=fun hrb D3 g3 c3 rl=>by
   obtain⟨D4,g4⟩:=D3.relend (G:=G) (Mb:=Mb) (b2.mono (fun k _ e=>.inr (by rw[e];rfl))) (by
    show LS (ptrV v.p,ptrV v.st,ptrV r'.rb,v.tsv,v.rsv) w4 ob _
    rw[hrb]
    exact b1) (.inl rfl)
   refine h.close hB D4 ⟨rl.off,rl.on,rl.pl,rl.both,rl.op,rl.kb,rl.db,rl.xb,rl.lo,rl.fit,rl.nb⟩ (fun k hk e=>q5 k (by omega) e) (fun k hk=>?_) (fun x hx=>.inl hx) ?_
   ·rcases g4 k hk with q | q
    ·rcases g3 k q with q | q
     ·exact hD1 k q
     ·exact .inr (by omega)
    ·exact .inr (by omega)
   ·refine ((l3.mono (fun k _ e=>Or.inr (.inr (.inl e)))).comp c3 (fun k hk e=>?_)).comp b2 (fun k hk e=>?_)
    ·rcases e with e | e
     ·exact .inl e
     ·exact (hD1 k e).elim .inr (fun q=>by omega)
    ·rcases l2 with q | q
     ·exact .inr (.inr (.inl (.inr (e ▸ q))))
     ·omega
  by_cases hc:wrC v.nb v.fr v.bl v.d.off who y xn=0
  ·obtain⟨q,a',ss',val',hq,rfl,k1,k2,k3⟩:=q3 hc
   obtain⟨t,pv',ht,rfl⟩:=s5 (hwc.trans hc)
   have hq:v.o=some q:=hq
   have ht:v.r.q=some t:=ht
   obtain⟨hm,m2,m3,m4⟩:=hr.op q t hq ht
   have hwr:homeC v.nb v.fr v.bl y=0:=by
    unfold wrC at hc
    split at hc
    ·rename_i e;exact absurd hc e
    ·split at hc
     ·exact absurd hc (by decide)
     ·rename_i e;exact Classical.byContradiction fun q=>e q
   obtain⟨yn,rfl,hyn⟩:=home_nat hwr
   obtain⟨D3,g3,c3⟩:=h1.both2 q6 q5 q4 q1 (fun q9 e9=>.inl ⟨_,rfl,by have e9:v.o=some q9:=e9;rw[hq]at e9;cases e9;rfl⟩) s2 s1 rfl s3 (fun t9 e9=>.inl ⟨_,rfl,by have e9:v.r.q=some t9:=e9;rw[ht]at e9;cases e9;rfl⟩) (fun x hx=>by
    have:=h.lk x hx
    rw[hq,ht]at this
    simpa using this)
   refine FINI rfl D3 g3 c3 ?_
   have R5:=hr.setOp (v:=v) (K':=v.K+1) (q:={ q with n:=q.n+1,a:=a',ss:=ss',val:=val' }) (t:={ t with pv:=pv',ps:=t.ps++[((yn:Int),strOfNums zs)] }) (by omega) (hm.put hyn hwr zs (by simpa using k1) k2) (by simp only;omega) (by simp;omega) (by simp only;omega) (r':={ v.r with q:=some { t with pv:=pv',ps:=t.ps++[((yn:Int),strOfNums zs)] } }) rfl rfl rfl rfl
   exact⟨R5.off,R5.on,R5.pl,R5.both,R5.op,R5.kb,R5.db,R5.xb,R5.lo,R5.fit,R5.nb⟩
  ·obtain rfl:=q2 hc
   obtain rfl:=s4 (fun e=>hc (hwc.symm.trans e))
   obtain⟨D3,g3,c3⟩:=h1.both2 q6 q5 q4 q1 (fun q9 e9=>.inl ⟨q9,e9,rfl⟩) s2 s1 rfl s3 (fun t9 e9=>.inl ⟨t9,e9,rfl⟩) h.lk
   refine FINI rfl D3 g3 c3 ?_
   have R5:=hr.up (K':=v.K+1) (by omega)
   exact⟨R5.off,R5.on,R5.pl,R5.both,R5.op,R5.kb,R5.db,R5.xb,R5.lo,R5.fit,R5.nb⟩
 have hzn:∀x (W:World),Calls Tryz.prog 39 #[.int .i64 x] W fun e w'=>e=.returned (.int .i64 x)/\w'=W:=fun x W=>num_any x W
 have HZ:=hid hzn
 clear h hr hB hM hp hR hPO hXB hYB hDB hzn hpl hnb hkb
 unfold ptrV
 go_enter Tryz.func77,Tryz.ntmps77
 go_wp2_with fail
 refine Calls.mono HL.out ?_
 rintro e w1 ⟨G,rfl,q⟩
 have H2:=hid q
 clear q HL
 go_wp2_with fail
 refine Calls.mono H2.out ?_
 rintro e w2 ⟨code,rfl,q⟩
 have H3:=hid q
 clear q H2
 go_wp2_with fail
 refine Calls.mono H3.out ?_
 rintro e w3 ⟨rfl,q⟩
 have H4:=hid q
 clear q H3
 go_wp2_with fail
 refine Calls.mono H4.out ?_
 rintro e w4 ⟨rfl,q⟩
 have FIN:=hid q
 clear q H4
 go_wp2_with fail
 refine Calls.mono (HZ.out _ _) ?_
 rintro e w5 ⟨rfl,hw5⟩
 rw[hw5]
 clear hw5
 go_wp2_with fail
 exact FIN.out
end Go.Proofs.YthfojpcibnfmgaaGreat
