import Derived.Test.YthfojpcibnfmgaaGreatV38
set_option maxRecDepth 100000
set_option maxHeartbeats 16000000
namespace Go.Proofs.YthfojpcibnfmgaaGreat
variable {w w' w1 w2:World}
variable {K' M k:Nat}
variable {B X Y Y':Nat->Prop}
variable {rv tv u:Value}
variable {who:Option Bool}
variable {zs:List Int}
variable {r':Ra}
variable {d':Pd}
variable {s':Js}
open Go.RowKit Go.Deep
variable {Gm:Nat×Nat×Nat}
structure Dv where
 p:Nat
 st:Nat
 j:Nat
 c:Nat
 nb:Nat
 fr:Nat
 bl:Nat
 K:Nat
 d:Pd
 s:Js
 o:Option OT
 r:Ra
 tsv:Value
 rsv:Value
 bv:Value
 xs:List (Nat×Nat)
def ptrV (k:Nat):Value:=.pointer (some ⟨k,0,none⟩)
def Dset (ob:Nat) (v:Dv) (k:Nat):Prop:=Rset v.r k\/XL ob v.bv k\/v.tsv.ownBlock=some k\/v.rsv.ownBlock=some k\/∃x∈v.xs,k=x.2
structure DqR (w:World) (ob:Nat) (v:Dv):Prop where
 ls:LS (ptrV v.p,ptrV v.st,ptrV v.r.rb,v.tsv,v.rsv) w ob v.bv
 rf:Rsd w v.nb v.fr v.bl v.r
 ts:w.ownsRow 0 81 1 v.tsv v.xs.length (v.xs.map fun x=>ptrV x.1)
 rs:w.ownsRow 0 65 1 v.rsv v.xs.length (v.xs.map fun x=>ptrV x.2)
 all:∀x∈v.xs,(∃t,v.r.q=some t/\x.2=t.g)\/∃pv mv,Rt5 w x.2 v.r.rb pv mv true
structure DqP (Y:Nat->Prop) (w:World) (v:Dv):Prop where
 pg:StO Y w v.j v.c v.p v.st v.nb v.K v.fr v.bl v.d v.s v.o
 all:∀x∈v.xs,(∃q,v.o=some q/\x.1=q.t)\/(Txb w x.1 v.j .nilIface v.st (.pointer none)/\¬Y x.1)
 yb:∀k,Y k->k<w.heap.size
structure Dq (Y:Nat->Prop) (w:World) (ob:Nat) (v:Dv):Prop where
 P:DqP Y w v
 R:DqR w ob v
 ny:∀k,Dset ob v k->¬Y k
 lk:∀x∈v.xs,(∃q,v.o=some q/\x.1=q.t) ↔ ∃t,v.r.q=some t/\x.2=t.g
theorem DqR.kinds{ob:Nat}{v:Dv}(h:DqR w ob v)(hk:Dset ob v k):∃cur e,w.heap[k]?=some (.cells cur e (0,0))/\e≠125/\e≠83:=by
 rcases hk with hk | hk | hk | hk | ⟨x,hx,rfl⟩
 ·obtain⟨cur,e,hc,he⟩:=h.rf.kinds hk
  exact⟨cur,e,hc,by rcases he with rfl | rfl | rfl | rfl | rfl | rfl <;> decide,by rcases he with rfl | rfl | rfl | rfl | rfl | rfl <;> decide⟩
 ·obtain⟨⟨Nn,h1⟩,h2⟩:=h.ls
  rcases hk with rfl | hk
  ·exact⟨_,_,h1,by decide,by decide⟩
  ·rcases h2 with h2 | ⟨G,M,ys,h3,_,h5,_⟩
   ·rw[h2]at hk
    cases hk
   ·rw[h3]at hk
    have:G=k:=by simpa [Value.ownBlock] using hk
    subst this
    exact⟨_,_,h5,by decide,by decide⟩
 ·obtain⟨cur,hc⟩:=rowKind h.ts hk
  exact⟨cur,_,hc,by decide,by decide⟩
 ·obtain⟨cur,hc⟩:=rowKind h.rs hk
  exact⟨cur,_,hc,by decide,by decide⟩
 ·rcases h.all x hx with ⟨t,ht,e⟩ | ⟨pv,mv,hr⟩
  ·rw[e]
   exact⟨_,_,(h.rf.tx t ht).blk,by decide,by decide⟩
  ·exact⟨_,_,hr,by decide,by decide⟩
theorem DqR.lt{ob:Nat}{v:Dv}(h:DqR w ob v)(hk:Dset ob v k):k<w.heap.size:=by
 obtain⟨cur,e,hc,_⟩:=h.kinds hk
 exact (Array.getElem?_eq_some_iff.1 hc).1
theorem DqR.keep{ob:Nat}{v:Dv}(h:DqR w ob v)(hb:But X w w')(hx:∀k,Dset ob v k->¬X k):DqR w' ob v where
 ls:=h.ls.but hb (fun k e=>hx k (.inr (.inl e)))
 rf:=h.rf.but hb (fun k e=>hx k (.inl e))
 ts:=owns_keep h.ts (fun k e=>hb.block k (h.lt (.inr (.inr (.inl e)))) (hx k (.inr (.inr (.inl e)))))
 rs:=owns_keep h.rs (fun k e=>hb.block k (h.lt (.inr (.inr (.inr (.inl e))))) (hx k (.inr (.inr (.inr (.inl e))))))
 all:=fun x hm=>(h.all x hm).imp id (fun⟨pv,mv,q⟩=>⟨pv,mv,q.keep (hb.block x.2 q.lt (hx x.2 (.inr (.inr (.inr (.inr ⟨x,hm,rfl⟩))))))⟩)
theorem DqP.keep{v:Dv}(h:DqP Y w v)(hb:But X w w')(hx:∀k,k<w.heap.size->X k->¬Y k)(hk:∀k,X k->k<w.heap.size->∃cur e,w.heap[k]?=some (Obj.cells cur e (0,0))/\e≠125):DqP Y w' v where
 pg:=h.pg.keep hb (fun k hl e1 e2=>hx k hl e1 e2)
 all:=fun x hm=>(h.all x hm).imp id (fun⟨q1,q2⟩=>⟨q1.keep (hb.block x.1 q1.lt (fun e=>by
  obtain⟨cur,e9,hc,he⟩:=hk x.1 e q1.lt
  unfold Txb at q1
  rw[q1]at hc
  injection hc with hc
  injection hc with _ hc
  exact he hc.symm)),q2⟩)
 yb:=fun k e=>Nat.lt_of_lt_of_le (h.yb k e) hb.size
theorem Dq.prog{ob:Nat}{v:Dv}(h:Dq Y w ob v)(hb:But Y w w')(hg:Gr Y Y' w):DqR w' ob v/\∀k,Dset ob v k->¬Y' k:=⟨h.R.keep hb h.ny,fun k hk e=>h.ny k hk (hg k (h.R.lt hk) e)⟩
theorem DqP.over{v:Dv}(h:DqP Y w v)(hb:But Y w w')(hg:Gr Y Y' w):∀x∈v.xs,(∃q,v.o=some q/\x.1=q.t)\/(Txb w' x.1 v.j .nilIface v.st (.pointer none)/\¬Y' x.1):=fun x hm=>(h.all x hm).imp id (fun⟨q1,q2⟩=>⟨q1.keep (hb.block x.1 q1.lt q2),fun e=>q2 (hg x.1 q1.lt e)⟩)
structure Rl (Gm:Nat×Nat×Nat) (M:Nat) (v:Dv):Prop where
 off:v.r.off=v.d.off
 on:v.d.off=false->∃lo,∃home Ts,On v.d v.s v.nb v.fr v.bl lo home Ts/\Hc v.nb v.fr v.bl home Ts v.r.Fs v.r.Ds lo v.r.sure/\Ts.length<=M
 ct:v.d.off=true->∃lo,∃home Ts,Cut v.d v.nb v.fr v.bl lo home Ts/\Hc v.nb v.fr v.bl home Ts v.r.Fs v.r.Ds lo v.r.sure/\Ts.length<=M
 pl:v.d.puts.length<=4 * v.nb+64
 both:v.o.isSome=v.r.q.isSome
 op:∀q t,v.o=some q->v.r.q=some t->Mq v.nb v.fr v.bl q.a q.ms q.val t.ps t.ks/\q.n+q.ss.length<=2 * M/\t.ps.length<=M/\t.ks.length<=M
 kb:v.K<=M
 db:v.r.Ds.length+134217728<=M/\∀ps∈v.r.Ds,ps.length<=M
 xb:v.xs.length<=M
 lo:16<=v.bl
 fit:v.fr+v.bl<=v.nb
 nb:v.nb<=524288
 gr:Gm=(v.nb,v.fr,v.bl)
 fs:v.r.Fs=List.replicate v.nb (strOfNums (zeros 512))
def Ball (Y:Nat->Prop) (ob:Nat) (v:Dv) (k:Nat):Prop:=Y k\/Dset ob v k\/∃x∈v.xs,k=x.1
def Dsk (Gm:Nat×Nat×Nat) (B:Nat->Prop) (w:World) (ob M:Nat):Prop:=∃Y v,Dq Y w ob v/\Rl Gm M v/\∀k,B k ↔ Ball Y ob v k
def DskS (Gm:Nat×Nat×Nat) (B:Nat->Prop) (w w':World) (ob M:Nat):Prop:=∃B',Dsk Gm B' w' ob M/\Gr B B' w/\But B w w'
theorem DqP.x1{v:Dv}(h:DqP Y w v){x:Nat×Nat}(hx:x∈v.xs):x.1<w.heap.size:=by
 rcases h.all x hx with ⟨q,hq,e⟩ | ⟨q,_⟩
 ·have hp:=h.pg
  rw[hq]at hp
  obtain⟨_,_,_,_,_,_,q3,_⟩:=hp
  rw[e]
  exact q3.lt
 ·exact q.lt
theorem Dq.lt{ob:Nat}{v:Dv}(h:Dq Y w ob v)(hk:Ball Y ob v k):k<w.heap.size:=by
 rcases hk with hk | hk | ⟨x,hx,rfl⟩
 ·exact h.P.yb k hk
 ·exact h.R.lt hk
 ·exact h.P.x1 hx
theorem Dsk.keep{ob:Nat}(h:Dsk Gm B w ob M)(hb:But X w w')(hx:∀k,k<w.heap.size->X k->¬B k):Dsk Gm B w' ob M:=by
 obtain⟨Y,v,h1,h2,h3⟩:=h
 refine⟨Y,v,⟨⟨h1.P.pg.keep hb (fun k hl e1 e2=>hx k hl e1 ((h3 k).2 (.inl e2))),fun x hm=>(h1.P.all x hm).imp id (fun⟨q1,q2⟩=>⟨q1.keep (hb.block x.1 q1.lt (fun e=>hx x.1 q1.lt e ((h3 _).2 (.inr (.inr ⟨x,hm,rfl⟩))))),q2⟩),fun k e=>Nat.lt_of_lt_of_le (h1.P.yb k e) hb.size⟩,h1.R.keep hb (fun k hk e=>hx k (h1.R.lt hk) e ((h3 k).2 (.inr (.inl hk)))),h1.ny,h1.lk⟩,h2,h3⟩
theorem Dsk.below{ob:Nat}(h:Dsk Gm B w ob M)(hb:Below w.heap.size w w'):Dsk Gm B w' ob M:=h.keep (X:=fun _=>False) (But.of_below hb) (fun _ _ q _=>q)
theorem Dq.close{ob:Nat}{v v':Dv}(h:Dq Y w ob v)(hB:∀k,B k ↔ Ball Y ob v k)(h':Dq Y' w' ob v')(r':Rl Gm M v')(gY:Gr Y Y' w)(gD:∀k,Dset ob v' k->Dset ob v k\/w.heap.size<=k)(gx:∀x∈v'.xs,x∈v.xs\/w.heap.size<=x.1)(hb:But (fun k=>Y k\/Dset ob v k) w w'):DskS Gm B w w' ob M:=by
 have _:=h
 refine⟨Ball Y' ob v',⟨Y',v',h',r',fun _=>Iff.rfl⟩,fun k hk e=>(hB k).2 ?_,hb.mono (fun k _ e=>(hB k).2 (e.elim .inl (fun q=>.inr (.inl q))))⟩
 rcases e with e | e | ⟨x,hx,rfl⟩
 ·exact .inl (gY k hk e)
 ·rcases gD k e with q | q
  ·exact .inr (.inl q)
  ·omega
 ·rcases gx x hx with q | q
  ·exact .inr (.inr ⟨x,q,rfl⟩)
  ·omega
def Pkd (w:World) (v:Dv) (tv rv:Value) (who:Option Bool):Prop:=PWho w v.j v.st v.o tv who/\RWho w v.r rv who/\(who=none\/∃x∈v.xs,tv=ptrV x.1/\rv=ptrV x.2)
theorem Dq.pick{ob:Nat}{v:Dv}(h:Dq Y w ob v){x:Nat×Nat}(hx:x∈v.xs):∃who,Pkd w v (ptrV x.1) (ptrV x.2) who:=by
 rcases h.P.all x hx with q | ⟨q1,_⟩
 ·obtain⟨t,ht,e2⟩:=(h.lk x hx).1 q
  obtain⟨q,hq,e1⟩:=q
  exact⟨some true,⟨q,hq,by rw[e1];rfl⟩,⟨t,ht,by rw[e2];rfl⟩,.inr ⟨x,hx,rfl,rfl⟩⟩
 ·refine⟨some false,⟨x.1,rfl,q1⟩,?_,.inr ⟨x,hx,rfl,rfl⟩⟩
  rcases h.R.all x hx with q | ⟨pv,mv,hr⟩
  ·obtain⟨q,hq,e1⟩:=(h.lk x hx).2 q
   exfalso
   have hp:=h.P.pg
   rw[hq]at hp
   obtain⟨_,_,_,_,_,_,q3,_⟩:=hp
   rw[e1]at q1
   unfold Txb at q1 q3
   rw[q1]at q3
   injection q3 with q3
   injection q3 with q3
   simp at q3
  ·exact⟨x.2,pv,mv,rfl,hr⟩
theorem RWho.keep{r:Ra}(h:RWho w r rv who)(hk:∀g,rv=ptrV g->w'.heap[g]?=w.heap[g]?):RWho w' r rv who:=by
 cases who with
 | none=>exact h
 | some b=>
  cases b with
  | true=>exact h
  | false=>
   obtain⟨g,pv,mv,e,hg⟩:=h
   exact⟨g,pv,mv,e,hg.keep (hk g e)⟩
theorem Pkd.ref{ob:Nat}{v:Dv}(h:Pkd w v tv rv who)(hq:Dq Y w ob v)(hb:But Y w w'):RWho w' v.r rv who:=by
 obtain⟨_,h2,h3⟩:=h
 rcases h3 with rfl | ⟨x,hx,_,rfl⟩
 ·exact h2
 ·refine h2.keep (fun g e=>?_)
  obtain rfl:x.2=g:=by
   unfold ptrV at e
   injection e with e
   injection e with e
   injection e
  have hd:Dset ob v x.2:=.inr (.inr (.inr (.inr ⟨x,hx,rfl⟩)))
  exact hb.block x.2 (hq.R.lt hd) (hq.ny _ hd)
open Go.RowKit Go.Deep
variable {Gm:Nat×Nat×Nat}
def DskV (Gm:Nat×Nat×Nat) (B:Nat->Prop) (w w':World) (ob M:Nat) (u:Value):Prop:=∃B' zs,Dsk Gm B' w' ob M/\Gr B B' w/\But B w w'/\RdV w w' B' u zs
theorem DskS.v{ob:Nat}(h:DskS Gm B w w' ob M):DskV Gm B w w' ob M (.slice none 0 0):=by
 obtain⟨B',h1,h2,h3⟩:=h
 exact⟨B',[],h1,h2,h3,.inl ⟨rfl,rfl⟩⟩
theorem Dq.closeV{ob:Nat}{v v':Dv}(h:Dq Y w ob v)(hB:∀k,B k ↔ Ball Y ob v k)(h':Dq Y' w' ob v')(r':Rl Gm M v')(gY:Gr Y Y' w)(gD:∀k,Dset ob v' k->Dset ob v k)(gx:∀x∈v'.xs,x∈v.xs)(hb:But (fun k=>Y k\/Dset ob v k) w w')(hu:RdV w w' Y' u zs):DskV Gm B w w' ob M u:=by
 obtain⟨B',q1,q2,q3⟩:=h.close hB h' r' gY (fun k e=>.inl (gD k e)) (fun x e=>.inl (gx x e)) hb
 refine⟨Ball Y' ob v',zs,⟨Y',v',h',r',fun _=>Iff.rfl⟩,fun k hk e=>(hB k).2 ?_,q3,hu.imp id ?_⟩
 ·rcases e with e | e | ⟨x,hx,rfl⟩
  ·exact .inl (gY k hk e)
  ·exact .inr (.inl (gD k e))
  ·exact .inr (.inr ⟨x,gx x hx,rfl⟩)
 ·rintro ⟨g,cp,e1,e2,e3,e4,e5⟩
  refine⟨g,cp,e1,e2,e3,e4,fun e=>?_⟩
  rcases e with e | e | ⟨x,hx,rfl⟩
  ·exact e5 e
  ·have:=h.R.lt (gD g e)
   omega
  ·have:=h.P.x1 (gx x hx)
   omega
theorem rd_nil :Rd 0 w none 0 []:=⟨rfl,(by intro z hz;simp at hz),.inl rfl⟩
theorem RdV.str{v:Value}(h:RdV w w' Y v zs)(hb:Below w'.heap.size w' w2)(n:Nat):(convert 40 9 v).run Tryz.prog (w2.drewN n)=.ok (.string (strOfNums zs)) (w2.drewN n):=by
 rcases h with ⟨rfl,rfl⟩ | ⟨g,cp,rfl,_,h3,h4,_⟩
 ·exact conv_str (B:=0) (w:=w2.drewN n) (a:=none) (n:=0) (zs:=[]) rd_nil 0
 ·have h5:Own (w2.drewN n) g 512 cp zs:=(h3.keep (hb.block g h3.lt)).keep rfl
  exact conv_str (B:=(w2.drewN n).heap.size) (h5.rd h4) cp
theorem RdV.low{v:Value}(h:RdV w w' Y v zs)(hb:Below w'.heap.size w' w2):RdV w w2 Y v zs:=h.imp id (fun⟨g,cp,e1,e2,e3,e4,e5⟩=>⟨g,cp,e1,e2,e3.keep (hb.block g e3.lt),e4,e5⟩)
theorem str_nil:strOfNums []=ByteArray.empty:=rfl
theorem Rl.read{v:Dv}(h:Rl Gm M v)(hF:v.r.Fs.length=v.nb)(y:Int):(prC v.nb v.fr v.bl v.d v.s y).2=(rdC v.nb v.fr v.bl v.r.Fs v.r.Ds v.r.off y).2/\strOfNums (prC v.nb v.fr v.bl v.d v.s y).1=(rdC v.nb v.fr v.bl v.r.Fs v.r.Ds v.r.off y).1:=by
 unfold prC rdC
 rw[h.off]
 cases ho:v.d.off with
 | true=>exact⟨rfl,rfl⟩
 | false=>
  by_cases hh:homeC v.nb v.fr v.bl y=0
  ·obtain⟨yn,rfl,hyn⟩:=home_nat hh
   obtain⟨_,home,Ts,hO,hK,_⟩:=h.on ho
   have hHB:HomeB v.nb v.fr v.bl yn:=by
    refine⟨hyn,fun q=>?_⟩
    unfold homeC at hh
    rw[if_pos (.inr (.inr ⟨by omega,by omega⟩))]at hh
    exact absurd hh (by decide)
   have e1:=hO.read hHB
   have hFy:v.r.Fs[yn]?=some (v.r.Fs.getD yn ByteArray.empty):=by
    rw[List.getD_eq_getElem?_getD,List.getElem?_eq_getElem (by rw[hF];exact hyn)]
    rfl
   have e2:=hK.now yn hHB _ hFy
   simp[hh,e1,e2]
  ·simp[hh,str_nil]
theorem Rl.tread{v:Dv}(h:Rl Gm M v)(hF:v.r.Fs.length=v.nb)(hw:who=some true->v.o.isSome=true)(y:Int):(ptC v.nb v.fr v.bl v.d v.s v.o who y).2=(trC v.nb v.fr v.bl v.r who y).2/\strOfNums (ptC v.nb v.fr v.bl v.d v.s v.o who y).1=(trC v.nb v.fr v.bl v.r who y).1:=by
 unfold ptC trC
 rw[h.off]
 by_cases hc:askW who v.d.off=0
 ·obtain⟨rfl,ho⟩:=askW_zero hc
  by_cases hh:homeC v.nb v.fr v.bl y=0
  ·obtain⟨yn,rfl,hyn⟩:=home_nat hh
   obtain⟨q,hq⟩:=Option.isSome_iff_exists.1 (hw rfl)
   obtain⟨t,ht⟩:=Option.isSome_iff_exists.1 (h.both ▸ hw rfl)
   obtain⟨hM,_⟩:=h.op q t hq ht
   have hr:=h.read hF (yn:Int)
   unfold prC rdC at hr
   rw[h.off,ho]at hr
   simp[hh]at hr
   have hps:psOf v.r=t.ps:=by simp[psOf,ht]
   simp only[hc,hh,hq,hps,layU_last,hM.now.last yn]
   simp only[ne_eq,not_true_eq_false,if_false,Int.toNat_natCast]
   refine⟨trivial,?_⟩
   cases hL:LofA q.a q.val yn with
   | none=>simp[hr]
   | some zs=>rfl
  ·simp[hc,hh,str_nil]
 ·simp[hc,str_nil]
theorem Pkd.open{v:Dv}(h:Pkd w v tv rv who):who=some true->v.o.isSome=true:=fun e=>by
 subst e
 obtain⟨q,hq,_⟩:=h.1
 rw[hq]
 rfl
theorem Rl.up{v:Dv}(h:Rl Gm M v)(hK:K'<=M+1):Rl Gm (M+1) { v with K:=K' } where
 off:=h.off
 on:=fun e=>by
  obtain⟨q1,home,Ts,q2,q3,q4⟩:=h.on e
  exact⟨q1,home,Ts,q2,q3,by omega⟩
 ct:=fun e=>by
  obtain⟨q1,home,Ts,q2,q3,q4⟩:=h.ct e
  exact⟨q1,home,Ts,q2,q3,by omega⟩
 pl:=h.pl
 both:=h.both
 op:=fun q t e1 e2=>by
  obtain⟨q1,q2,q3,q4⟩:=h.op q t e1 e2
  exact⟨q1,by omega,by omega,by omega⟩
 kb:=hK
 db:=⟨by have:=h.db.1;simp only;omega,fun ps hps=>by have:=h.db.2 ps hps;omega⟩
 xb:=by have:=h.xb;simp only;omega
 lo:=h.lo
 fit:=h.fit
 nb:=h.nb
 gr:=h.gr
 fs:=h.fs
theorem Rl.ps{v:Dv}(h:Rl Gm M v)(hM:M<=268435455):∀t,v.r.q=some t->t.ps.length<=1073741823:=fun t ht=>by
 obtain⟨q,hq⟩:=Option.isSome_iff_exists.1 (h.both.trans (by rw[ht];rfl))
 obtain⟨_,_,q3,_⟩:=h.op q t hq ht
 omega
theorem Dq.readBoth{ob:Nat}{v:Dv}(h:Dq Y w ob v)(hr:Rl Gm M v)(hB:∀k,B k ↔ Ball Y ob v k)(hM:M<=268435455)(y:Int) :
  Calls Tryz.prog 27 #[ptrV v.st,.int .i64 y] w fun e w1=>∃u code,e=.returned (.tuple #[u,.int .i64 code])/\DqR w1 ob v/\But Y w w1/\∀w1',Below w1.heap.size w1 w1'->Calls Tryz.prog 38 #[ptrV v.r.rb,.int .i64 y] w1' fun e' w2=>∃S,e'=.returned (.tuple #[.string S,.int .i64 code])/\Below w1'.heap.size w1' w2/\(∀n,(convert 40 9 u).run Tryz.prog (w2.drewN n)=.ok (.string S) (w2.drewN n))/\DskV Gm B w w2 ob (M+1) u:=by
 have hpl:=hr.pl
 have hnb:=hr.nb
 have hkb:=hr.kb
 refine Calls.mono (h.P.pg.read hr.fit (by omega) (by omega) y) ?_
 rintro e w1 ⟨u,Y',rfl,q1,q2,q3,q4,q5⟩
 obtain⟨hR1,hN1⟩:=h.prog q5 q4
 obtain⟨e1,e2⟩:=hr.read h.R.rf.fsl y
 refine⟨u,_,rfl,hR1,q5,fun w1' b1=>?_⟩
 have hR1':DqR w1' ob v:=hR1.keep (X:=fun _=>False) (But.of_below b1) (fun _ _ q=>q)
 refine Calls.mono (hR1'.rf.read hnb hr.fit (by have:=hr.db.1;omega) (fun ps hps=>by have:=hr.db.2 ps hps;omega) y) ?_
 rintro e' w2 ⟨rfl,b2'⟩
 have b2:Below w1.heap.size w1 w2:=b1.trans (b2'.mono b1.size)
 refine⟨_,by rw[e1],b2',fun n=>by rw[<- e2];exact q2.str b2 n,?_⟩
 have hP2:DqP Y' w2 { v with K:=v.K+1 }:=⟨q1.below b2,fun x hx=>(h.P.over q5 q4 x hx).imp id (fun⟨t1,t2⟩=>⟨t1.keep (b2.block x.1 t1.lt),t2⟩),fun k e=>Nat.lt_of_lt_of_le (q3 k e) b2.size⟩
 have hR2:DqR w2 ob v:=hR1.keep (X:=fun _=>False) (But.of_below b2) (fun _ _ q=>q)
 refine h.closeV hB (v':={ v with K:=v.K+1 }) ⟨hP2,⟨hR2.ls,hR2.rf,hR2.ts,hR2.rs,hR2.all⟩,hN1,h.lk⟩ (hr.up (by omega)) q4 (fun _ e=>e) (fun _ e=>e) ((q5.trans (But.of_below b2)).mono (fun k _ e=>.inl e)) (q2.low b2)
theorem Dq.seeBoth{ob:Nat}{v:Dv}(h:Dq Y w ob v)(hr:Rl Gm M v)(hB:∀k,B k ↔ Ball Y ob v k)(hM:M<=268435455)(hp:Pkd w v tv rv who)(y:Int)(hy1:-9223372036854775808<=y)(hy2:y<=9223372036854775807) :
  Calls Tryz.prog 28 #[tv,.int .i64 y] w fun e w1=>∃u code,e=.returned (.tuple #[u,.int .i64 code])/\But Y w w1/\Calls Tryz.prog 76 #[rv,.int .i64 y] w1 fun e' w2=>∃S,e'=.returned (.tuple #[.string S,.int .i64 code])/\(∀n,(convert 40 9 u).run Tryz.prog (w2.drewN n)=.ok (.string S) (w2.drewN n))/\DskV Gm B w w2 ob (M+1) u:=by
 have hpl:=hr.pl
 have hnb:=hr.nb
 have hkb:=hr.kb
 refine Calls.mono (h.P.pg.tread hr.fit (by omega) (by omega) hnb hp.1 y hy1 hy2) ?_
 rintro e w1 ⟨u,Y',rfl,q1,q2,q3,q4,q5⟩
 obtain⟨hR1,hN1⟩:=h.prog q5 q4
 obtain⟨e1,e2⟩:=hr.tread h.R.rf.fsl hp.open y
 have hw1:=hp.ref h q5
 refine⟨u,_,rfl,q5,?_⟩
 refine Calls.mono (hR1.rf.tread hnb hr.fit (by have:=hr.db.1;omega) (fun ps hps=>by have:=hr.db.2 ps hps;omega) (hr.ps hM) hw1 y) ?_
 rintro e' w2 ⟨rfl,b2⟩
 refine⟨_,by rw[e1],fun n=>by rw[<- e2];exact q2.str b2 n,?_⟩
 have hP2:DqP Y' w2 { v with K:=v.K+1 }:=⟨q1.below b2,fun x hx=>(h.P.over q5 q4 x hx).imp id (fun⟨t1,t2⟩=>⟨t1.keep (b2.block x.1 t1.lt),t2⟩),fun k e=>Nat.lt_of_lt_of_le (q3 k e) b2.size⟩
 have hR2:DqR w2 ob v:=hR1.keep (X:=fun _=>False) (But.of_below b2) (fun _ _ q=>q)
 refine h.closeV hB (v':={ v with K:=v.K+1 }) ⟨hP2,⟨hR2.ls,hR2.rf,hR2.ts,hR2.rs,hR2.all⟩,hN1,h.lk⟩ (hr.up (by omega)) q4 (fun _ e=>e) (fun _ e=>e) ((q5.trans (But.of_below b2)).mono (fun k _ e=>.inl e)) (q2.low b2)
open Go.RowKit Go.Deep
variable {Gm:Nat×Nat×Nat}
theorem DqR.ref{ob:Nat}{v:Dv}(h:DqR w ob v)(hb:But (Rset v.r) w w')(rf:Rsd w' v.nb v.fr v.bl r')(hrb:r'.rb=v.r.rb)(hg:Rgr v.r r' w)(hall:∀t,v.r.q=some t->(∃t',r'.q=some t'/\t'.g=t.g)\/∃pv mv,Rt5 w' t.g v.r.rb pv mv true):DqR w' ob { v with r:=r' }/\∀k,Dset ob { v with r:=r' } k->Dset ob v k\/w.heap.size<=k:=by
 have hk:∀(k:Nat) (cur:Array Value) (e:TypeId),w.heap[k]?=some (Obj.cells cur e (0,0))->e≠67->e≠9->e≠60->e≠150->e≠115->e≠3->¬Rset v.r k:=fun k cur e hc n1 n2 n3 n4 n5 n6 hk=>by
  obtain⟨cur2,e2,hc2,he⟩:=h.rf.kinds hk
  have:e=e2:=by
   rw[hc]at hc2
   injection hc2 with hc2
   injection hc2
  subst this
  rcases he with rfl | rfl | rfl | rfl | rfl | rfl <;> contradiction
 refine⟨⟨?_,rf,?_,?_,fun x hx=>?_⟩,fun k hk=>?_⟩
 ·show LS (ptrV v.p,ptrV v.st,ptrV r'.rb,v.tsv,v.rsv) w' ob v.bv
  rw[hrb]
  obtain⟨⟨Nn,h1⟩,h2⟩:=id h.ls
  refine h.ls.but hb (fun k e=>?_)
  rcases e with rfl | e
  ·exact hk _ _ _ h1 (by decide) (by decide) (by decide) (by decide) (by decide) (by decide)
  ·rcases h2 with h2 | ⟨G,Mm,ys,h3,_,h5,_⟩
   ·rw[h2]at e
    cases e
   ·rw[h3]at e
    have:G=k:=by simpa [Value.ownBlock] using e
    subst this
    exact hk _ _ _ h5 (by decide) (by decide) (by decide) (by decide) (by decide) (by decide)
 ·refine owns_keep h.ts (fun k e=>?_)
  obtain⟨cur,hc⟩:=rowKind h.ts e
  exact hb.block k (Array.getElem?_eq_some_iff.1 hc).1 (hk _ _ _ hc (by decide) (by decide) (by decide) (by decide) (by decide) (by decide))
 ·refine owns_keep h.rs (fun k e=>?_)
  obtain⟨cur,hc⟩:=rowKind h.rs e
  exact hb.block k (Array.getElem?_eq_some_iff.1 hc).1 (hk _ _ _ hc (by decide) (by decide) (by decide) (by decide) (by decide) (by decide))
 ·show (∃t,r'.q=some t/\x.2=t.g)\/∃pv mv,Rt5 w' x.2 r'.rb pv mv true
  rw[hrb]
  rcases h.all x hx with ⟨t,ht,e⟩ | ⟨pv,mv,hx2⟩
  ·rcases hall t ht with ⟨t',q1,q2⟩ | q
   ·exact .inl ⟨t',q1,e.trans q2.symm⟩
   ·exact .inr (e ▸ q)
  ·refine .inr ⟨pv,mv,hx2.keep (hb.block x.2 hx2.lt (fun e=>?_))⟩
   have h115:∀(cur:Array Value) (e9:TypeId),w.heap[x.2]?=some (Obj.cells cur e9 (0,0))->e9=115:=fun cur e9 hc=>by
    unfold Rt5 at hx2
    rw[hx2]at hc
    injection hc with hc
    injection hc with _ hc
    exact hc.symm
   rcases e with e | e | e | ⟨y,hy,e⟩ | ⟨q,hq,e | e | e⟩
   ·rw[e]at h115
    exact absurd (h115 _ _ h.rf.sto) (by decide)
   ·obtain⟨cur,hc⟩:=rowKind h.rf.fst e
    exact absurd (h115 _ _ hc) (by decide)
   ·obtain⟨cur,hc⟩:=rowD.kind h.rf.don e
    exact absurd (h115 _ _ hc) (by decide)
   ·obtain⟨cur,e9,hc,_⟩:=h.rf.kinds (k:=x.2) (.inr (.inr (.inr (.inl ⟨y,hy,e⟩))))
    obtain⟨i,hi⟩:=List.mem_iff_getElem?.1 hy
    obtain⟨ps,hps⟩:∃ps,v.r.Ds[i]?=some ps:=⟨_,List.getElem?_eq_getElem (by have:=(List.getElem?_eq_some_iff.1 hi).1;rw[<- h.rf.rsl];exact this)⟩
    obtain⟨cur2,hc2⟩:=rowKind (h.rf.din i y ps hi hps) (k:=y.1) rfl
    rw[<- e]at hc2
    exact absurd (h115 _ _ hc2) (by decide)
   ·have hb2:=(h.rf.tx q hq).blk
    unfold Rt5 at hx2 hb2
    rw[e,hb2]at hx2
    injection hx2 with hx2
    injection hx2 with hx2
    simp at hx2
   ·obtain⟨cur,hc⟩:=rowKind (h.rf.tx q hq).pr e
    exact absurd (h115 _ _ hc) (by decide)
   ·obtain⟨cur,hc⟩:=rowKind (h.rf.tx q hq).mr e
    exact absurd (h115 _ _ hc) (by decide)
 ·rcases hk with hk | hk | hk | hk | hk
  ·exact (hg k hk).imp .inl id
  ·exact .inl (.inr (.inl hk))
  ·exact .inl (.inr (.inr (.inl hk)))
  ·exact .inl (.inr (.inr (.inr (.inl hk))))
  ·exact .inl (.inr (.inr (.inr (.inr hk))))
theorem Dq.both{ob:Nat}{v:Dv}(h:Dq Y w ob v)(hB:∀k,B k ↔ Ball Y ob v k)(hb1:But Y w w1)(hg1:Gr Y Y' w)(hy1:∀k,Y' k->k<w1.heap.size){o':Option OT}(hp:StO Y' w1 v.j v.c v.p v.st v.nb K' v.fr v.bl d' s' o')(hpa:∀q,v.o=some q->(∃q',o'=some q'/\q'.t=q.t)\/(Txb w1 q.t v.j .nilIface v.st (.pointer none)/\¬Y' q.t))(hb2:But (Rset v.r) w1 w2)(rf:Rsd w2 v.nb v.fr v.bl r')(hrb:r'.rb=v.r.rb)(hg2:Rgr v.r r' w1)(hra:∀t,v.r.q=some t->(∃t',r'.q=some t'/\t'.g=t.g)\/∃pv mv,Rt5 w2 t.g v.r.rb pv mv true)(hlk:∀x∈v.xs,(∃q,o'=some q/\x.1=q.t) ↔ ∃t,r'.q=some t/\x.2=t.g)(hR:Rl Gm M { v with K:=K',d:=d',s:=s',o:=o',r:=r' }):DskS Gm B w w2 ob M:=by
 obtain⟨hR1,hN1⟩:=h.prog hb1 hg1
 obtain⟨hR2,hD2⟩:=hR1.ref hb2 rf hrb hg2 hra
 have hs1:=hb1.size
 have hs2:=hb2.size
 have hP1:DqP Y' w1 { v with K:=K',d:=d',s:=s',o:=o' }:=⟨hp,fun x hx=>?_,hy1⟩
 rotate_left
 ·rcases h.P.over hb1 hg1 x hx with ⟨q,hq,e⟩ | q
  ·rcases hpa q hq with ⟨q',q1,q2⟩ | ⟨q1,q2⟩
   ·exact .inl ⟨q',q1,e.trans q2.symm⟩
   ·exact .inr ⟨e ▸ q1,e ▸ q2⟩
  ·exact .inr q
 have hP2:=hP1.keep hb2 (fun k hl e1 e2=>hN1 k (.inl e1) e2) (fun k e _=>by
  obtain⟨cur,e9,hc,he,_⟩:=hR1.kinds (k:=k) (.inl e)
  exact⟨cur,e9,hc,he⟩)
 refine h.close hB (v':={ v with K:=K',d:=d',s:=s',o:=o',r:=r' }) ⟨⟨hP2.pg,hP2.all,hP2.yb⟩,⟨hR2.ls,hR2.rf,hR2.ts,hR2.rs,hR2.all⟩,fun k hk e=>?_,hlk⟩ hR hg1 (fun k hk=>?_) (fun x hx=>.inl hx) ?_
 ·rcases hD2 k hk with q | q
  ·exact hN1 k q e
  ·have:=hy1 k e
   omega
 ·rcases hD2 k hk with q | q
  ·exact .inl q
  ·exact .inr (by omega)
 ·exact (hb1.mono (fun k _ e=>.inl e)).comp hb2 (fun k _ e=>.inr (.inl e))
theorem Rl.setOp{v:Dv}(h:Rl Gm M v)(hK:K'<=M+1){q:OT}{t:RT}(hm:Mq v.nb v.fr v.bl q.a q.ms q.val t.ps t.ks)(h1:q.n+q.ss.length<=2 * (M+1))(h2:t.ps.length<=M+1)(h3:t.ks.length<=M+1)(e1:r'.q=some t)(e2:r'.off=v.r.off)(e3:r'.Fs=v.r.Fs)(e4:r'.Ds=v.r.Ds)(e5:r'.sure=v.r.sure):Rl Gm (M+1) { v with K:=K',o:=some q,r:=r' } where
 off:=e2.trans h.off
 on:=fun e=>by
  obtain⟨q1,home,Ts,q2,q3,q4⟩:=h.on e
  exact⟨q1,home,Ts,q2,(by show Hc v.nb v.fr v.bl home Ts r'.Fs r'.Ds q1 r'.sure;rw[e3,e4,e5];exact q3),by omega⟩
 ct:=fun e=>by
  obtain⟨q1,home,Ts,q2,q3,q4⟩:=h.ct e
  exact⟨q1,home,Ts,q2,(by show Hc v.nb v.fr v.bl home Ts r'.Fs r'.Ds q1 r'.sure;rw[e3,e4,e5];exact q3),by omega⟩
 pl:=h.pl
 both:=by
  show (some q).isSome=r'.q.isSome
  rw[e1]
  rfl
 op:=fun q9 t9 e8 e9=>by
  cases e8
  have e7:r'.q=some t9:=e9
  rw[e1]at e7
  cases e7
  exact⟨hm,h1,h2,h3⟩
 kb:=hK
 db:=by
  show r'.Ds.length+134217728<=M+1/\∀ps∈r'.Ds,ps.length<=M+1
  rw[e4]
  exact⟨by have:=h.db.1;omega,fun ps hps=>by have:=h.db.2 ps hps;omega⟩
 xb:=by have:=h.xb;simp only;omega
 lo:=h.lo
 fit:=h.fit
 nb:=h.nb
 gr:=h.gr
 fs:=e3.trans h.fs
theorem Rl.opn{v:Dv}(h:Rl Gm M v){q:OT}(hq:v.o=some q):∃t,v.r.q=some t:=Option.isSome_iff_exists.1 (h.both ▸ (by rw[hq];rfl))
theorem Dq.markBoth{ob:Nat}{v:Dv}(h:Dq Y w ob v)(hr:Rl Gm M v)(hB:∀k,B k ↔ Ball Y ob v k)(hM:M<=268435455)(hp:Pkd w v tv rv who) :
  Calls Tryz.prog 29 #[tv] w fun e w1=>∃m code,e=.returned (.tuple #[.int .i64 m,.int .i64 code])/\But Y w w1/\Calls Tryz.prog 79 #[rv] w1 fun e' w2=>e'=.returned (.tuple #[.int .i64 m,.int .i64 code])/\DskS Gm B w w2 ob (M+1):=by
 have hkb:=hr.kb
 refine Calls.mono (h.P.pg.mark (fun q hq=>?_) hp.1) ?_
 ·obtain⟨t,ht⟩:=hr.opn hq
  obtain⟨hm,_,_,h4⟩:=hr.op q t hq ht
  have:=hm.len
  omega
 rintro e w1 ⟨Y',o',rfl,q1,q2,q3,q4,q5,q6⟩
 obtain⟨hR1,_⟩:=h.prog q6 q5
 refine⟨_,_,rfl,q6,?_⟩
 refine Calls.mono (hR1.rf.mark (fun t ht=>?_) (hp.ref h q6)) ?_
 ·obtain⟨q,hq⟩:=Option.isSome_iff_exists.1 (hr.both.trans (by rw[ht];rfl))
  obtain⟨_,_,_,h4⟩:=hr.op q t hq ht
  omega
 rintro e' w2 ⟨rfl,r',s1,s2,s3,s4,s5⟩
 rw[hr.off]at s4 s5 ⊢
 by_cases hc:askW who v.d.off=0
 ·obtain⟨q,hq,rfl⟩:=q3 hc
  obtain⟨t,mv',ht,rfl⟩:=s5 hc
  obtain⟨hm,h2,h3,h4⟩:=hr.op q t hq ht
  have hl:=hm.len
  refine⟨by simp[hc,ksOf,ht,msOf,hq,hl],?_⟩
  refine h.both hB q6 q5 q4 q1 (fun q9 e9=>.inl ⟨_,rfl,by rw[hq]at e9;cases e9;rfl⟩) s2 s1 rfl s3 (fun t9 e9=>.inl ⟨_,rfl,by rw[ht]at e9;cases e9;rfl⟩) (fun x hx=>?_) (hr.setOp (v:=v) (K':=v.K) (by omega) (hm.mark _) ?_ ?_ ?_ rfl hr.off.symm rfl rfl rfl)
  ·have:=h.lk x hx
   rw[hq,ht]at this
   simpa using this
  ·simp only
   omega
  ·simp only
   omega
  ·simp only[List.length_append,List.length_cons,List.length_nil]
   omega
 ·obtain rfl:=q2 hc
  obtain rfl:=s4 hc
  refine⟨by simp[hc],?_⟩
  exact h.both hB q6 q5 q4 q1 (fun q9 e9=>.inl ⟨q9,e9,rfl⟩) s2 s1 rfl s3 (fun t9 e9=>.inl ⟨t9,e9,rfl⟩) h.lk (hr.up (by omega))
theorem Dq.backBoth{ob:Nat}{v:Dv}(h:Dq Y w ob v)(hr:Rl Gm M v)(hB:∀k,B k ↔ Ball Y ob v k)(hM:M<=268435455)(hp:Pkd w v tv rv who)(k:Int) :
  Calls Tryz.prog 33 #[tv,.int .i64 k] w fun e w1=>∃code,e=.returned (.int .i64 code)/\But Y w w1/\Calls Tryz.prog 80 #[rv,.int .i64 k] w1 fun e' w2=>e'=.returned (.int .i64 code)/\DskS Gm B w w2 ob (M+1):=by
 have hkb:=hr.kb
 refine Calls.mono (h.P.pg.back hr.nb (fun q hq=>?_) hp.1 k) ?_
 ·obtain⟨t,ht⟩:=hr.opn hq
  obtain⟨hm,h2,_,h4⟩:=hr.op q t hq ht
  have:=hm.len
  omega
 rintro e w1 ⟨Y',o',rfl,q1,q2,q3,q4,q5,q6⟩
 obtain⟨hR1,_⟩:=h.prog q6 q5
 refine⟨_,rfl,q6,?_⟩
 refine Calls.mono (hR1.rf.back (fun t ht=>?_) (hp.ref h q6) k) ?_
 ·obtain⟨q,hq⟩:=Option.isSome_iff_exists.1 (hr.both.trans (by rw[ht];rfl))
  obtain⟨hm,_,_,h4⟩:=hr.op q t hq ht
  refine⟨by omega,fun i kk hk=>?_⟩
  obtain⟨⟨pp,b⟩,hb⟩:∃r,q.ms[i]?=some r:=⟨_,List.getElem?_eq_getElem (by rw[<- hm.len];exact (List.getElem?_eq_some_iff.1 hk).1)⟩
  exact (hm.at_ i kk pp b hk hb).1
 rintro e' w2 ⟨rfl,r',s1,s2,s3,s4,s5⟩
 have hlen:(ksOf v.r).length=(msOf v.o).length:=by
  cases ho:v.o with
  | none=>
   have:v.r.q=none:=by
    have:=hr.both
    rw[ho]at this
    cases hq:v.r.q
    ·rfl
    ·rw[hq]at this;cases this
   simp[ksOf,msOf,this]
  | some q=>
   obtain⟨t,ht⟩:=hr.opn ho
   obtain⟨hm,_⟩:=hr.op q t ho ht
   simp[ksOf,msOf,ht,hm.len]
 rw[hr.off,hlen]at s4 s5 ⊢
 refine⟨rfl,?_⟩
 by_cases hc:bkC v.d.off who (msOf v.o).length k=0
 ·obtain⟨q,kn,n',pp,b,hq,rfl,hms,hn',rfl⟩:=q3 hc
  obtain⟨t,kn2,p2,pv',mv',ht,e2,hks,rfl⟩:=s5 hc
  obtain rfl:kn=kn2:=by omega
  obtain⟨hm,h2,h3,h4⟩:=hr.op q t hq ht
  refine h.both hB q6 q5 q4 q1 (fun q9 e9=>.inl ⟨_,rfl,by rw[hq]at e9;cases e9;rfl⟩) s2 s1 rfl s3 (fun t9 e9=>.inl ⟨_,rfl,by rw[ht]at e9;cases e9;rfl⟩) (fun x hx=>?_) (hr.setOp (v:=v) (K':=v.K) (by omega) (hm.back hks hms) ?_ ?_ ?_ rfl hr.off.symm rfl rfl rfl)
  ·have:=h.lk x hx
   rw[hq,ht]at this
   simpa using this
  ·simp only[List.length_take]
   omega
  ·simp only[List.length_take]
   omega
  ·simp only[List.length_take]
   omega
 ·obtain rfl:=q2 hc
  obtain rfl:=s4 hc
  exact h.both hB q6 q5 q4 q1 (fun q9 e9=>.inl ⟨q9,e9,rfl⟩) s2 s1 rfl s3 (fun t9 e9=>.inl ⟨t9,e9,rfl⟩) h.lk (hr.up (by omega))
theorem Rl.endOp{v:Dv}(h:Rl Gm M v)(hK:K'<=M+1)(ho:d'.off=v.d.off)(e1:r'.q=none)(e2:r'.off=v.r.off)(e3:r'.Fs=v.r.Fs)(hon:d'.off=false->∃lo,∃home Ts,On d' s' v.nb v.fr v.bl lo home Ts/\Hc v.nb v.fr v.bl home Ts r'.Fs r'.Ds lo r'.sure/\Ts.length<=M+1)(hct:d'.off=true->∃lo,∃home Ts,Cut d' v.nb v.fr v.bl lo home Ts/\Hc v.nb v.fr v.bl home Ts r'.Fs r'.Ds lo r'.sure/\Ts.length<=M+1)(hpl:d'.puts.length<=4 * v.nb+64)(hD:r'.Ds.length+134217728<=M+1/\∀ps∈r'.Ds,ps.length<=M+1):Rl Gm (M+1) { v with K:=K',d:=d',s:=s',o:=none,r:=r' } where
 off:=e2.trans (h.off.trans ho.symm)
 on:=hon
 ct:=hct
 pl:=hpl
 both:=by
  show none.isSome=r'.q.isSome
  rw[e1]
  rfl
 op:=fun q9 t9 e1 _=>by cases e1
 kb:=hK
 db:=hD
 xb:=by have:=h.xb;simp only;omega
 lo:=h.lo
 fit:=h.fit
 nb:=h.nb
 gr:=h.gr
 fs:=e3.trans h.fs
theorem Dq.abortBoth{ob:Nat}{v:Dv}(h:Dq Y w ob v)(hr:Rl Gm M v)(hB:∀k,B k ↔ Ball Y ob v k)(hM:M<=268435455)(hp:Pkd w v tv rv who) :
  Calls Tryz.prog 35 #[tv] w fun e w1=>∃code,e=.returned (.int .i64 code)/\But Y w w1/\Calls Tryz.prog 82 #[rv] w1 fun e' w2=>e'=.returned (.int .i64 code)/\DskS Gm B w w2 ob (M+1):=by
 have hkb:=hr.kb
 have _:=hM
 refine Calls.mono (h.P.pg.abort hp.1) ?_
 rintro e w1 ⟨Y',o',rfl,q1,q2,q3,q4,q5,q6⟩
 obtain⟨hR1,_⟩:=h.prog q6 q5
 refine⟨_,rfl,q6,?_⟩
 refine Calls.mono (hR1.rf.abort (hp.ref h q6)) ?_
 rintro e' w2 ⟨rfl,r',s1,s2,s3,s4,s5⟩
 rw[hr.off]at s4 s5 ⊢
 refine⟨rfl,?_⟩
 by_cases hc:askW who v.d.off=0
 ·obtain⟨q,hq,rfl,hT,hN⟩:=q3 hc
  obtain⟨t,ht,rfl,pv,mv,hO⟩:=s5 hc
  refine h.both hB q6 q5 q4 q1 (fun q9 e9=>.inr (by rw[hq]at e9;cases e9;exact⟨hT,hN⟩)) s2 s1 rfl s3 (fun t9 e9=>.inr (by rw[ht]at e9;cases e9;exact⟨pv,mv,hO⟩)) (fun x hx=>by simp) (hr.endOp (v:=v) (K':=v.K) (by omega) rfl rfl hr.off.symm rfl (fun e=>?_) (fun e=>?_) hr.pl ?_)
  ·obtain⟨q1,home,Ts,q2,q3,q4⟩:=hr.on e
   exact⟨q1,home,Ts,q2,q3,by omega⟩
  ·obtain⟨q1,home,Ts,q2,q3,q4⟩:=hr.ct e
   exact⟨q1,home,Ts,q2,q3,by omega⟩
  ·exact⟨by have:=hr.db.1;simp only;omega,fun ps hps=>by have:=hr.db.2 ps hps;omega⟩
 ·obtain rfl:=q2 hc
  obtain rfl:=s4 hc
  exact h.both hB q6 q5 q4 q1 (fun q9 e9=>.inl ⟨q9,e9,rfl⟩) s2 s1 rfl s3 (fun t9 e9=>.inl ⟨t9,e9,rfl⟩) h.lk (hr.up (by omega))
end Go.Proofs.YthfojpcibnfmgaaGreat
