import Derived.Test.YthfojpcibnfmgaaGreatV36
import Derived.Test.YthfojpcibnfmgaaGreatV32
set_option maxRecDepth 100000
set_option maxHeartbeats 16000000
namespace Go.Proofs.YthfojpcibnfmgaaGreat
variable {w w':World}
variable {K M bl fr j k lo m mc n nb p st t x:Nat}
variable {r:Ra}
variable {rv sv tv:Value}
variable {who:Option Bool}
variable {Y:Nat->Prop}
variable {d:Pd}
variable {o:Option OT}
variable {ma:Option Addr}
variable {ss:List Sp}
variable {ms:List Mr}
variable {Ts:List Tn}
variable {Fs:List ByteArray}
variable {Ds:List (List Pu)}
open Go.RowKit
def cmC (bl:Nat) (off:Bool) (who:Option Bool) (ps:List Pu):Int:=if askW who off≠0 then askW who off else if bl / 2-4<cntU ps ps.length then 44 else 0
theorem Rsd.commit(h:Rsd w nb fr bl r)(hbl:16<=bl)(hbl2:bl<=524288)(hql:∀q,r.q=some q->q.ps.length<=1073741823)(hdl:r.Ds.length<=1073741823)(hw:RWho w r rv who) :
  Calls Tryz.prog 81 #[rv] w fun e w'=>e=.returned (.int .i64 (cmC bl r.off who (psOf r)))/\∃r',Rsd w' nb fr bl r'/\But (Rset r) w w'/\Rgr r r' w/\(askW who r.off≠0->r'=r)/\(askW who r.off=0->∃q dv' rs',r.q=some q/\(∃pv mv,Rt5 w' q.g r.rb pv mv true)/\(cntU q.ps q.ps.length<=bl / 2-4/\0<cntU q.ps q.ps.length->w'.ownsRow 0 60 1 dv' (r.Ds.length+1) (rowsD rs' (r.Ds++[q.ps])))/\r'={ r with q:=none,dv:=dv',rs:=rs',Ds:=if cntU q.ps q.ps.length<=bl / 2-4/\0<cntU q.ps q.ps.length then r.Ds++[q.ps] else r.Ds }):=by
 have HS:=h.state hw
 unfold cmC
 by_cases hc:askW who r.off=0
 ·obtain⟨rfl,hoff⟩:=askW_zero hc
  obtain⟨q,hq,rfl⟩:=hw
  have hps:psOf r=q.ps:=by simp[psOf,hq]
  rw[hps]
  have hT:=h.tx q hq
  have hsto:=h.sto
  rw[hoff]at hsto
  obtain⟨pa,pc,e1,hP⟩:=PutsL.of_row hT.pr rfl
  have hblk:=hT.blk
  rw[e1]at hblk
  have hpg:∀a,pa=some a->a.block≠q.g/\a.block≠r.rb:=fun a e=>by
   rcases hT.pr.2 with ⟨q0,_⟩ | ⟨g,cap,cur,q1,_,hg,_⟩
   ·rw[e1]at q0
    subst e
    cases q0
   ·rw[e1]at q1
    have e2:pa=some ⟨g,0,none⟩:=by injection q1
    rw[e]at e2
    obtain rfl:a=⟨g,0,none⟩:=by injection e2
    exact⟨kind_ne hg hT.blk (by decide),kind_ne hg h.sto (by decide)⟩
  by_cases hlg:bl / 2-4<cntU q.ps q.ps.length
  ·refine Calls.mono (rcommit_large hblk hsto hP (hql q hq) hpg hbl hbl2 hlg) ?_
   rintro e w' ⟨rfl,q1,q2,q3⟩
   rw[<- hoff]at q2
   obtain⟨t1,t2,t3⟩:=h.ended hq q3 q2
   refine⟨by rw[if_neg (by rw[hc];decide),if_pos hlg],{ r with q:=none },t1,t3,t2,fun e=>absurd hc e,fun _=>⟨q,r.dv,r.rs,hq,⟨_,_,q1⟩,fun e=>absurd e (by omega),?_⟩⟩
   rw[if_neg (fun e=>by omega)]
  ·by_cases hz:cntU q.ps q.ps.length=0
   ·obtain⟨da,dc,e3,_⟩:=h.done
    rw[e3]at hsto
    refine Calls.mono (rcommit_none hblk hsto hP (hql q hq) hpg hbl hbl2 hz) ?_
    rintro e w' ⟨rfl,q1,q2,q3⟩
    rw[<- hoff,<- e3]at q2
    obtain⟨t1,t2,t3⟩:=h.ended hq q3 q2
    refine⟨by rw[if_neg (by rw[hc];decide),if_neg hlg],{ r with q:=none },t1,t3,t2,fun e=>absurd hc e,fun _=>⟨q,r.dv,r.rs,hq,⟨_,_,q1⟩,fun e=>absurd e (by omega),?_⟩⟩
    rw[if_neg (fun e=>by omega)]
   ·have hpl:0<q.ps.length:=by have:=cntU_le q.ps q.ps.length;omega
    obtain⟨pg,pc',e4,_⟩:=row_full hT.pr hpl
    have hpr:=hT.pr
    have hblk:=hT.blk
    rw[e4]at hpr hblk
    refine Calls.mono (rcommit_ok hblk hsto hpr (hql q hq) hbl hbl2 h.don hdl (by omega) (by omega)) ?_
    rintro e w' ⟨rfl,ga,ca,g6,cap6,q1,q2,q3,q4,q5,q6,q7⟩
    rw[<- hoff]at q2
    have hif:(if cntU q.ps q.ps.length<=bl / 2-4/\0<cntU q.ps q.ps.length then r.Ds++[q.ps] else r.Ds)=r.Ds++[q.ps]:=if_pos ⟨by omega,by omega⟩
    have hin:∀k,(k=r.rb\/k=q.g\/r.dv.ownBlock=some k)->Rset r k:=fun k e=>by
     rcases e with e | e | e
     ·exact .inl e
     ·exact .inr (.inr (.inr (.inr ⟨q,hq,.inl e⟩)))
     ·exact .inr (.inr (.inl e))
    have hkeep:∀(k:Nat) (cur:Array Value) (e:TypeId),w.heap[k]?=some (Obj.cells cur e (0,0))->e≠115->e≠67->e≠60->w'.heap[k]?=w.heap[k]?:=fun k cur e hc n1 n2 n3=>by
     refine q7.block k (Array.getElem?_eq_some_iff.1 hc).1 (fun e2=>?_)
     rcases e2 with e2 | e2 | e2
     ·exact kind_ne hc h.sto n2 e2
     ·exact kind_ne hc hT.blk n1 e2
     ·obtain⟨cu,hcu⟩:=rowD.kind h.don e2
      exact kind_ne hc hcu n3 rfl
    refine⟨by rw[if_neg (by rw[hc];decide),if_neg hlg],{ r with q:=none,dv:=.slice (some ⟨g6,0,none⟩) (r.Ds.length+1) cap6,rs:=r.rs++[(ga,ca)],Ds:=r.Ds++[q.ps] },⟨q2,?_,h.fsl,?_,?_,fun i x ps h1 h2=>?_,fun q9 e9=>(by cases e9),fun q9 e9=>(by cases e9)⟩,q7.mono (fun k _ e=>hin k e),?_,fun e=>absurd hc e,fun _=>⟨q,.slice (some ⟨g6,0,none⟩) (r.Ds.length+1) cap6,r.rs++[(ga,ca)],hq,⟨_,_,q1⟩,fun _=>(by rw[rowsD_snoc h.rsl];exact q3),by rw[hif]⟩⟩
    ·refine owns_keep h.fst (fun k e=>?_)
     obtain⟨cur,hcu⟩:=rowKind h.fst e
     exact hkeep k cur _ hcu (by decide) (by decide) (by decide)
    ·show rowD w' 60 (.slice (some ⟨g6,0,none⟩) (r.Ds.length+1) cap6) (r.Ds++[q.ps]).length (rowsD (r.rs++[(ga,ca)]) (r.Ds++[q.ps]))
     rw[rowsD_snoc h.rsl,List.length_append]
     exact rowD.own q3
    ·show (r.rs++[(ga,ca)]).length=(r.Ds++[q.ps]).length
     simp[h.rsl]
    ·have hx:(r.rs++[(ga,ca)])[i]?=some x:=h1
     have hp:(r.Ds++[q.ps])[i]?=some ps:=h2
     by_cases hi:i<r.rs.length
     ·rw[List.getElem?_append_left hi]at hx
      rw[List.getElem?_append_left (by rw[<- h.rsl];exact hi)]at hp
      refine owns_keep (h.din i x ps hx hp) (fun k e=>?_)
      obtain⟨cur,hcu⟩:=rowKind (h.din i x ps hx hp) e
      exact hkeep k cur _ hcu (by decide) (by decide) (by decide)
     ·have hi2:i=r.rs.length:=by
       have:=(List.getElem?_eq_some_iff.1 hx).1
       simp at this
       omega
      subst hi2
      rw[h.rsl]at hp
      simp at hx hp
      subst hx
      subst hp
      exact q4
    ·intro k hk
     rcases hk with hk | hk | hk | ⟨x,hx,hk⟩ | ⟨q9,e9,hk⟩
     ·exact .inl (.inl hk)
     ·exact .inl (.inr (.inl hk))
     ·have e5:g6=k:=by simpa [Value.ownBlock] using hk
      subst e5
      exact q6.imp (fun e=>.inr (.inr (.inl e))) id
     ·have hx':x∈r.rs++[(ga,ca)]:=hx
      rcases List.mem_append.1 hx' with hx' | hx'
      ·exact .inl (.inr (.inr (.inr (.inl ⟨x,hx',hk⟩))))
      ·obtain rfl:x=(ga,ca):=by simpa using hx'
       exact .inr (by rw[hk];exact q5)
     ·cases e9
 ·refine Calls.mono (rcommit_no HS (ne_bne hc)) ?_
  rintro e w' ⟨rfl,rfl⟩
  exact⟨by rw[if_pos hc],r,h,But.refl _ _,Rgr.refl r _,fun _=>rfl,fun e=>absurd e hc⟩
open Go.RowKit Go.Deep
def PWho (w:World) (j st:Nat) (o:Option OT) (tv:Value):Option Bool->Prop
 | none=>tv=.pointer none
 | some true=>∃q,o=some q/\tv=.pointer (some ⟨q.t,0,none⟩)
 | some false=>∃t,tv=.pointer (some ⟨t,0,none⟩)/\Txb w t j .nilIface st (.pointer none)
theorem StO.ask{c:Nat}{s:Js}(h:StO Y w j c p st nb K fr bl d s o)(hw:PWho w j st o tv who):Calls Tryz.prog 62 #[tv] w fun e w'=>e=.returned (.int .i64 (askW who d.off))/\Below w.heap.size w w':=by
 cases who with
 | none=>
  obtain rfl:=hw
  exact task_nil w
 | some b=>
  obtain⟨Z,hJ,_,hS,_⟩:=h.jq
  cases b with
  | true=>
   obtain⟨q,rfl,rfl⟩:=hw
   obtain⟨_,_,_,_,q1,_,q3,q4,_⟩:=h
   cases ho:d.off with
   | true=>exact task_off q1 ho q3
   | false=>exact task_open q1 ho q3 q4
  | false=>
   obtain⟨t,rfl,ht⟩:=hw
   cases ho:d.off with
   | true=>exact task_off hJ ho ht
   | false=>
    cases o with
    | none=>exact task_over0 hJ ho ht hS
    | some q=>
     obtain⟨_,_,_,_,_,_,q3,_⟩:=h
     refine task_over1 hJ ho ht hS q3 (fun e=>?_)
     unfold Txb at ht q3
     rw[e,ht]at q3
     injection q3 with q3
     injection q3 with q3
     simp at q3
theorem StO.askB{c:Nat}{s:Js}(h:StO Y w j c p st nb K fr bl d s o)(hw:PWho w j st o tv who):∀w',Below w.heap.size w w'->Calls Tryz.prog 62 #[tv] w' fun e w2=>e=.returned (.int .i64 (askW who d.off))/\Below w'.heap.size w' w2:=fun w' b=>by
 refine (h.below b).ask (who:=who) ?_
 cases who with
 | none=>exact hw
 | some b'=>
  cases b' with
  | true=>exact hw
  | false=>
   obtain⟨t,e,ht⟩:=hw
   exact⟨t,e,ht.keep (b.block t ht.lt)⟩
theorem StO.open2{c:Nat}{s:Js}(h:StO Y w j c p st nb K fr bl d s o):∃Z,Jq Z w j c p 4 nb K fr bl d s/\∀w' K' d' s' Z',Jq Z' w' j c p 4 nb K' fr bl d' s'->Gr Z Z' w->But Z w w'->∃Y',StO Y' w' j c p st nb K' fr bl d' s' o/\(∀g,w.heap.size<=g->¬Z' g->¬Y' g)/\(∀k,Y' k->k<w'.heap.size)/\Gr Y Y' w/\But Y w w':=by
 cases o with
 | none=>
  obtain⟨Z,h1,h2,h3,h4,h5⟩:=h
  refine⟨Z,h1,fun w' K' d' s' Z' q1 q2 q3=>?_⟩
  have hs:=q3.size
  exact⟨growZ Y Z' w w',⟨fun k=>Z' k/\k<w'.heap.size,q1.cut,fun k e=>growZ.of h2 q2 e.1 e.2,h3.keep (q3.block st h3.lt h4),fun e=>h4 (q2 st h3.lt e.1),.inl ⟨h5,h3.lt⟩⟩,fun g hg n q=>Or.elim q (fun e=>absurd e.2 (by omega)) (fun e=>n e.1),fun k q=>by rcases q with q | q <;> omega,growZ.gr _ _ _ _,q3.mono (fun k _ e=>h2 k e)⟩
 | some o=>
  obtain⟨Z,Zw,sv,mv,q1,q2,q3,q4,q5,q6,q8,q9,q10⟩:=h
  refine⟨Z,q1,fun w' K' d' s' Z' r1 r2 r3=>?_⟩
  have hs:=r3.size
  have ht:=q3.lt
  have hst:=q4.lt
  refine⟨growZ Y Z' w w',⟨fun k=>Z' k/\k<w'.heap.size,fun k=>Zw k/\k<w.heap.size,sv,mv,r1.cut,q2.cut.but r3 (fun k _ e=>(q6 k e.1).2),q3.keep (r3.block _ ht q9.1),q4.keep (r3.block st hst q10.1),fun k e=>growZ.of q5 r2 e.1 e.2,fun k e=>⟨.inl ⟨(q6 k e.1).1,e.2⟩,fun e2=>(q6 k e.1).2 (r2 k e.2 e2.1)⟩,q8,⟨fun e=>q9.1 (r2 _ ht e.1),fun e=>q9.2.1 e.1,.inl ⟨q9.2.2,ht⟩⟩,⟨fun e=>q10.1 (r2 st hst e.1),fun e=>q10.2.1 e.1,.inl ⟨q10.2.2,hst⟩⟩⟩,fun g hg n q=>Or.elim q (fun e=>absurd e.2 (by omega)) (fun e=>n e.1),fun k q=>by rcases q with q | q <;> omega,growZ.gr _ _ _ _,r3.mono (fun k _ e=>q5 k e)⟩
theorem StO.low{c:Nat}{s:Js}(h:StO Y w j c p st nb K fr bl d s o)(b:Below w.heap.size w w'):∃Y',StO Y' w' j c p st nb (K+1) fr bl d s o/\(∀g,w.heap.size<=g->¬Y' g)/\(∀k,Y' k->k<w'.heap.size)/\Gr Y Y' w/\But Y w w':=by
 obtain⟨Z,hJ,hcl⟩:=h.open2
 obtain⟨Y',q1,q2,q3⟩:=hcl w' (K+1) d s (fun k=>Z k/\k<w.heap.size) ((hJ.cut.below b).mono (fun _ q=>q) (by omega)) (fun k _ q=>q.1) (But.of_below b)
 exact⟨Y',q1,fun g hg=>q2 g hg (fun e=>by omega),q3⟩
def RdV (w w':World) (Y':Nat->Prop) (v:Value) (zs:List Int):Prop:=(v=.slice none 0 0/\zs=[])\/∃g cp,v=.slice (some ⟨g,0,none⟩) 512 cp/\w.heap.size<=g/\Own w' g 512 cp zs/\Pl.isB zs/\¬Y' g
def prC (nb fr bl:Nat) (d:Pd) (s:Js) (y:Int):List Int×Int:=if d.off then ([],24) else if homeC nb fr bl y≠0 then ([],42) else (jread d s y.toNat,0)
theorem StO.read{c:Nat}{s:Js}(h:StO Y w j c p st nb K fr bl d s o)(h1:fr+bl<=nb)(hl:d.puts.length<=1073741824)(hK:K<4611686018427387904)(y:Int) :
  Calls Tryz.prog 27 #[.pointer (some ⟨st,0,none⟩),.int .i64 y] w fun e w'=>∃v Y',e=.returned (.tuple #[v,.int .i64 (prC nb fr bl d s y).2])/\StO Y' w' j c p st nb (K+1) fr bl d s o/\RdV w w' Y' v (prC nb fr bl d s y).1/\(∀k,Y' k->k<w'.heap.size)/\Gr Y Y' w/\But Y w w':=by
 obtain⟨Z0,hJ0,_,hS,_⟩:=h.jq
 unfold prC
 cases ho:d.off with
 | true=>
  have HA:=sask_any hJ0 hS
  rw[ho]at HA
  refine Calls.mono (sread_no HA (by decide) y) ?_
  rintro e w' ⟨rfl,b⟩
  obtain⟨Y',q1,_,q3⟩:=h.low b
  exact⟨_,Y',rfl,q1,.inl ⟨rfl,rfl⟩,q3⟩
 | false=>
  by_cases hh:homeC nb fr bl y=0
  ·obtain⟨yn,rfl,hyn⟩:=home_nat hh
   obtain⟨Z,hJ,hcl⟩:=h.open2
   refine Calls.mono (sread_home hJ h1 ho hl hK yn hyn hh hS) ?_
   rintro e w' ⟨g,cp,rfl,r1,r2,r3,⟨Z',r4,r5,r6⟩,r7⟩
   obtain⟨Y',q1,q2,q3⟩:=hcl w' _ _ _ Z' r4 r5 r7
   refine⟨_,Y',by simp[hh],q1,.inr ⟨g,cp,rfl,r1,?_,?_,q2 g r1 r6⟩,q3⟩
   ·simpa [hh] using r2
   ·simpa [hh] using r3
  ·refine Calls.mono (sread_far hJ0 h1 ho y hh hS) ?_
   rintro e w' ⟨rfl,b⟩
   obtain⟨Y',q1,_,q3⟩:=h.low b
   exact⟨_,Y',by simp[hh],q1,.inl ⟨rfl,by simp[hh]⟩,q3⟩
def ptC (nb fr bl:Nat) (d:Pd) (s:Js) (o:Option OT) (who:Option Bool) (y:Int):List Int×Int:=if askW who d.off≠0 then ([],askW who d.off) else if homeC nb fr bl y≠0 then ([],42) else (match o with
 | some q=>((LofA q.a q.val y.toNat).getD (jread d s y.toNat),0)
 | none=>([],0))
theorem StO.tread{c:Nat}{s:Js}(h:StO Y w j c p st nb K fr bl d s o)(h1:fr+bl<=nb)(hl:d.puts.length<=1073741824)(hK:K<4611686018427387904)(hnb:nb<=524288)(hw:PWho w j st o tv who)(y:Int)(hy1:-9223372036854775808<=y)(hy2:y<=9223372036854775807) :
  Calls Tryz.prog 28 #[tv,.int .i64 y] w fun e w'=>∃v Y',e=.returned (.tuple #[v,.int .i64 (ptC nb fr bl d s o who y).2])/\StO Y' w' j c p st nb (K+1) fr bl d s o/\RdV w w' Y' v (ptC nb fr bl d s o who y).1/\(∀k,Y' k->k<w'.heap.size)/\Gr Y Y' w/\But Y w w':=by
 have HS:=h.ask hw
 unfold ptC
 by_cases hc:askW who d.off=0
 ·obtain⟨rfl,ho⟩:=askW_zero hc
  obtain⟨q,rfl,rfl⟩:=hw
  by_cases hh:homeC nb fr bl y=0
  ·obtain⟨yn,rfl,hyn⟩:=home_nat hh
   have h0:=h
   obtain⟨Z,Zw,sv,mv,q1,q2,q3,q4,q5,q6,q8,q9,q10⟩:=h
   obtain⟨D,hWq⟩:=q2.wq
   refine Calls.mono (tread_home q1 hWq h1 ho hl hK hnb yn hyn hh q3 q4) ?_
   rintro e w' ⟨g,cp,rfl,r1,r2,r3,⟨Z',r4,r5,r6⟩,r7⟩
   have hs:=r7.size
   have ht:=q3.lt
   have hst:=q4.lt
   refine⟨_,growZ Y Z' w w',by simp[hc,hh],⟨fun k=>Z' k/\k<w'.heap.size,fun k=>Zw k/\k<w.heap.size,sv,mv,r4.cut,q2.cut.but r7 (fun k _ e=>(q6 k e.1).2),q3.keep (r7.block _ ht q9.1),q4.keep (r7.block st hst q10.1),fun k e=>growZ.of q5 r5 e.1 e.2,fun k e=>⟨.inl ⟨(q6 k e.1).1,e.2⟩,fun e2=>(q6 k e.1).2 (r5 k e.2 e2.1)⟩,q8,⟨fun e=>q9.1 (r5 _ ht e.1),fun e=>q9.2.1 e.1,.inl ⟨q9.2.2,ht⟩⟩,⟨fun e=>q10.1 (r5 st hst e.1),fun e=>q10.2.1 e.1,.inl ⟨q10.2.2,hst⟩⟩⟩,.inr ⟨g,cp,rfl,r1,by simpa [hc,hh] using r2,by simpa [hc,hh] using r3,fun q=>Or.elim q (fun e=>absurd e.2 (by omega)) (fun e=>r6 e.1)⟩,fun k q=>by rcases q with q | q <;> omega,growZ.gr _ _ _ _,r7.mono (fun k _ e=>q5 k e)⟩
  ·have h0:=h
   obtain⟨Z,Zw,sv,mv,q1,q2,q3,q4,q5,q6,q8,q9,q10⟩:=h
   obtain⟨D,hWq⟩:=q2.wq
   refine Calls.mono (tread_far q1 hWq h1 ho y hy1 hy2 hh q3 q4) ?_
   rintro e w' ⟨rfl,b⟩
   obtain⟨Y',r1,_,r3⟩:=h0.low b
   exact⟨_,Y',by simp[hc,hh],r1,.inl ⟨rfl,by simp[hc,hh]⟩,r3⟩
 ·refine Calls.mono (tread_no HS (ne_bne hc) y) ?_
  rintro e w' ⟨rfl,b⟩
  obtain⟨Y',r1,_,r3⟩:=h.low b
  exact⟨_,Y',by simp[hc],r1,.inl ⟨rfl,by simp[hc]⟩,r3⟩
theorem StO.write{c:Nat}{s:Js}(h:StO Y w j c p st nb K fr bl d s o)(h1:fr+bl<=nb)(hl:d.puts.length<=1073741824)(hK:K<4611686018427387904)(hnb:nb<=524288)(hn:∀q,o=some q->q.n<=1073741823/\q.ss.length<=1073741823)(hw:PWho w j st o tv who)(y:Int)(hy1:-9223372036854775808<=y)(hy2:y<=9223372036854775807)(xa:Option Addr)(xn xc:Nat)(zs:List Int)(hR:RdN Y w xa xn zs) :
  Calls Tryz.prog 32 #[tv,.int .i64 y,.slice xa xn xc] w fun e w'=>∃Y' o',e=.returned (.int .i64 (wrC nb fr bl d.off who y xn))/\StO Y' w' j c p st nb (K+1) fr bl d s o'/\(wrC nb fr bl d.off who y xn≠0->o'=o)/\(wrC nb fr bl d.off who y xn=0->∃q a' ss' val',o=some q/\o'=some { q with n:=q.n+1,a:=a',ss:=ss',val:=val' }/\LofA a' val'=putL (LofA q.a q.val) y.toNat zs/\(∀(i p:Nat) (b:Nat->Option Wr),q.ms[i]?=some (p,b)->LofA b val'=LofA b q.val)/\ss'.length<=q.ss.length+1)/\(∀k,Y' k->k<w'.heap.size)/\Gr Y Y' w/\But Y w w':=by
 have HS:=h.ask hw
 unfold wrC
 by_cases hc:askW who d.off=0
 ·obtain⟨rfl,ho⟩:=askW_zero hc
  obtain⟨q,rfl,rfl⟩:=hw
  have h0:=h
  obtain⟨Z,Zw,sv,mv,q1,q2,q3,q4,q5,q6,q8,q9,q10⟩:=h0
  obtain⟨D,hWq⟩:=q2.wq
  by_cases hh:homeC nb fr bl y=0
  ·obtain⟨yn,rfl,hyn⟩:=home_nat hh
   by_cases hx:xn=512
   ·subst hx
    obtain⟨ad,rfl⟩:∃ad,xa=some ad:=by
     rcases hR.2.2 with q0 | ⟨b,off,e,_⟩
     ·exact absurd q0 (by decide)
     ·exact⟨_,e⟩
    refine Calls.mono (StM.write h (hn q rfl).1 (hn q rfl).2 h1 ho hl hK hnb yn hyn hh ad xc zs (fun w' b=>(hR.but b).rd)) ?_
    rintro e w' ⟨rfl,Y',a',ss',val',r1,r2,r3,r4,r5,r6,r7⟩
    exact⟨Y',some { q with n:=q.n+1,a:=a',ss:=ss',val:=val' },by simp[hc,hh],r1,fun e=>absurd (by simp[hc,hh]) e,fun _=>⟨q,a',ss',val',rfl,rfl,r2,r3,r4⟩,r5,r6,r7⟩
   ·obtain⟨Z0,hJ,hcl⟩:=h.open2
    refine Calls.mono (twrite_len hJ hWq h1 ho hl hK hnb yn hyn hh q3 q4 xa xn xc hx) ?_
    rintro e w' ⟨rfl,⟨Z',r1,r2⟩,r3⟩
    obtain⟨Y',s1,_,s3⟩:=hcl w' _ _ _ Z' r1 r2 r3
    refine⟨Y',some q,by simp[hc,hh,hx],s1,fun _=>rfl,fun e=>?_,s3⟩
    simp[hc,hh,hx]at e
  ·refine Calls.mono (twrite_far q1 hWq h1 ho y hy1 hy2 hh q3 q4 _) ?_
   rintro e w' ⟨rfl,b⟩
   obtain⟨Y',r1,_,r3⟩:=h.low b
   refine⟨Y',some q,by simp[hc,hh],r1,fun _=>rfl,fun e=>?_,r3⟩
   simp[hc,hh]at e
 ·refine Calls.mono (twrite_no HS (ne_bne hc) y _) ?_
  rintro e w' ⟨rfl,b⟩
  obtain⟨Y',r1,_,r3⟩:=h.low b
  refine⟨Y',o,by simp[hc],r1,fun _=>rfl,fun e=>?_,r3⟩
  simp[hc]at e
open Go.RowKit Go.Deep
def msOf (o:Option OT):List Mr:=match o with
 | some q=>q.ms
 | none=>[]
theorem StO.mark{c:Nat}{s:Js}(h:StO Y w j c p st nb K fr bl d s o)(hM:∀q,o=some q->q.ms.length<=1073741823)(hw:PWho w j st o tv who) :
  Calls Tryz.prog 29 #[tv] w fun e w'=>∃Y' o',e=.returned (.tuple #[.int .i64 (if askW who d.off≠0 then 0 else ((msOf o).length:Int)),.int .i64 (askW who d.off)])/\StO Y' w' j c p st nb K fr bl d s o'/\(askW who d.off≠0->o'=o)/\(askW who d.off=0->∃q,o=some q/\o'=some { q with ms:=q.ms++[(q.ss.length,q.a)] })/\(∀k,Y' k->k<w'.heap.size)/\Gr Y Y' w/\But Y w w':=by
 have HS:=h.ask hw
 by_cases hc:askW who d.off=0
 ·obtain⟨rfl,ho⟩:=askW_zero hc
  obtain⟨q,rfl,rfl⟩:=hw
  refine Calls.mono (StM.mark h ho (hM q rfl)) ?_
  rintro e w' ⟨rfl,Y',r1,r2⟩
  exact⟨Y',some { q with ms:=q.ms++[(q.ss.length,q.a)] },by simp[hc,msOf],r1,fun e=>absurd hc e,fun _=>⟨q,rfl,rfl⟩,r2⟩
 ·refine Calls.mono (tmark_no HS (ne_bne hc)) ?_
  rintro e w' ⟨rfl,b⟩
  exact⟨fun k=>Y k/\k<w.heap.size,o,by simp[hc],h.cut.below b,fun _=>rfl,fun e=>absurd e hc,fun k e=>Nat.lt_of_lt_of_le e.2 b.size,fun k _ e=>e.1,But.of_below b⟩
theorem hasMark_neg(_hx:Xb w x j m sv (.slice ma M mc))(k:Int)(hk:k<0) :
  Calls Tryz.prog 66 #[.pointer (some ⟨x,0,none⟩),.int .i64 k] w fun e w'=>e=.returned (.bool false)/\w'=w:=by
 have hk0:¬(0:Int)<=k:=by omega
 go_enter Tryz.func66,Tryz.ntmps66
 go_wp2
 go_ret
 exact⟨rfl,rfl⟩
theorem StM.backFar{c:Nat}{s:Js}{a:Nat->Option Wr}{val:Nat->List Int}(h:StM Y w j c p st nb K fr bl d s t x m n a ss ms val)(hon:d.off=false)(k:Int)(hk:k<0\/(ms.length:Int)<=k) :
  Calls Tryz.prog 33 #[.pointer (some ⟨t,0,none⟩),.int .i64 k] w fun e w'=>e=.returned (.int .i64 52)/\Below w.heap.size w w':=by
 obtain⟨PO,hPO⟩:∃PO:Ending->World->Prop,PO=fun e w'=>e=.returned (.int .i64 52)/\Below w.heap.size w w':=⟨_,rfl⟩
 by_cases hk0:k<0
 ·rw[<- hPO]
  obtain⟨Z,Zw,sv,mv,q1,q2,q3,q4,q5,q6,q8,q9,q10⟩:=h
  have HA:=hid (task_open q1 hon q3 q4)
  have HM:Hid (∀w1,Below w.heap.size w w1->w1.cell? ⟨t,3,none⟩=some (.pointer (some ⟨x,0,none⟩))/\(Calls Tryz.prog 66 #[.pointer (some ⟨x,0,none⟩),.int .i64 k] w1 fun e w'=>e=.returned (.bool false)/\w'=w1)/\PO (.returned (.int .i64 52)) w1):=fun w1 b1=>by
   have hW1:Wm (fun k=>Zw k/\k<w.heap.size) w1 x j m n nb fr bl a sv mv ss ms val:=q2.keepZ (fun k _ hk=>b1.block k hk) (fun k q hk=>⟨q,hk⟩)
   obtain⟨ma,mc,hmv,_⟩:=owns_slice hW1.mr
   have hx:=hW1.blk
   rw[hmv]at hx
   refine⟨(b1.cell (p:=⟨t,3,none⟩) q3.lt).trans (q3.cell 3),hasMark_neg hx k hk0,?_⟩
   rw[hPO]
   exact⟨rfl,b1⟩
  clear q1 q2 q3 q4 hPO q5 q6 q8 q9 q10 hk
  go_enter Tryz.func33,Tryz.ntmps33
  go_wp2_with fail
  refine Calls.mono HA.out ?_
  rintro e w1 ⟨rfl,b1⟩
  obtain⟨k3,hh,hF⟩:=HM.out w1 b1
  have HH:=hid hh
  have FIN:=hid hF
  clear b1 HA HM hF hh
  go_wp2_with fail
  refine Calls.mono HH.out ?_
  rintro e w2 ⟨rfl,hw2⟩
  rw[hw2]
  clear hw2 HH
  go_wp2_with fail
  exact FIN.out
 ·obtain⟨kn,rfl⟩:∃kn:Nat,k=(kn:Int):=⟨k.toNat,by omega⟩
  exact StM.backNo h hon kn (by omega)
theorem StO.back{c:Nat}{s:Js}(h:StO Y w j c p st nb K fr bl d s o)(hnb:nb<=524288)(hM:∀q,o=some q->q.n+q.ss.length<=1073741823/\q.ms.length<=1073741823)(hw:PWho w j st o tv who)(k:Int) :
  Calls Tryz.prog 33 #[tv,.int .i64 k] w fun e w'=>∃Y' o',e=.returned (.int .i64 (bkC d.off who (msOf o).length k))/\StO Y' w' j c p st nb K fr bl d s o'/\(bkC d.off who (msOf o).length k≠0->o'=o)/\(bkC d.off who (msOf o).length k=0->∃q kn n' pp b,o=some q/\k=((kn:Nat):Int)/\q.ms[kn]?=some (pp,b)/\n'+pp<=q.n+q.ss.length/\o'=some { q with n:=n',a:=b,ss:=q.ss.take pp,ms:=q.ms.take (kn+1) })/\(∀k,Y' k->k<w'.heap.size)/\Gr Y Y' w/\But Y w w':=by
 have HS:=h.ask hw
 unfold bkC
 by_cases hc:askW who d.off=0
 ·obtain⟨rfl,ho⟩:=askW_zero hc
  obtain⟨q,rfl,rfl⟩:=hw
  have hms:msOf (some q)=q.ms:=rfl
  rw[hms]
  by_cases hk:k<0\/(q.ms.length:Int)<=k
  ·refine Calls.mono (StM.backFar h ho k hk) ?_
   rintro e w' ⟨rfl,b⟩
   have hz:(if askW (some true) d.off≠0 then askW (some true) d.off else if k<0\/(q.ms.length:Int)<=k then 52 else 0)=52:=by rw[if_neg (by rw[hc];decide),if_pos hk]
   rw[hz]
   exact⟨fun k=>Y k/\k<w.heap.size,some q,rfl,h.cut.below b,fun _=>rfl,fun e=>absurd e (by decide),fun k e=>Nat.lt_of_lt_of_le e.2 b.size,fun k _ e=>e.1,But.of_below b⟩
  ·obtain⟨kn,rfl⟩:∃kn:Nat,k=(kn:Int):=⟨k.toNat,by omega⟩
   have hkn:kn<q.ms.length:=by omega
   obtain⟨⟨pp,b⟩,hp⟩:∃r,q.ms[kn]?=some r:=⟨_,List.getElem?_eq_getElem hkn⟩
   have hz:(if askW (some true) d.off≠0 then askW (some true) d.off else if (kn:Int)<0\/(q.ms.length:Int)<=(kn:Int) then 52 else 0)=0:=by rw[if_neg (by rw[hc];decide),if_neg hk]
   rw[hz]
   refine Calls.mono (StM.back h ho (hM q rfl).1 (hM q rfl).2 hnb kn pp b hp) ?_
   rintro e w' ⟨rfl,Y',n',r1,r2,r3⟩
   exact⟨Y',some { q with n:=n',a:=b,ss:=q.ss.take pp,ms:=q.ms.take (kn+1) },rfl,r2,fun e=>absurd rfl e,fun _=>⟨q,kn,n',pp,b,rfl,rfl,hp,r1,rfl⟩,r3⟩
 ·refine Calls.mono (tback_no HS (ne_bne hc) k) ?_
  rintro e w' ⟨rfl,b⟩
  rw[if_pos hc]
  exact⟨fun k=>Y k/\k<w.heap.size,o,rfl,h.cut.below b,fun _=>rfl,fun e=>absurd e hc,fun k e=>Nat.lt_of_lt_of_le e.2 b.size,fun k _ e=>e.1,But.of_below b⟩
theorem StO.abort{c:Nat}{s:Js}(h:StO Y w j c p st nb K fr bl d s o)(hw:PWho w j st o tv who) :
  Calls Tryz.prog 35 #[tv] w fun e w'=>∃Y' o',e=.returned (.int .i64 (askW who d.off))/\StO Y' w' j c p st nb K fr bl d s o'/\(askW who d.off≠0->o'=o)/\(askW who d.off=0->∃q,o=some q/\o'=none/\Txb w' q.t j .nilIface st (.pointer none)/\¬Y' q.t)/\(∀k,Y' k->k<w'.heap.size)/\Gr Y Y' w/\But Y w w':=by
 have HS:=h.ask hw
 by_cases hc:askW who d.off=0
 ·obtain⟨rfl,ho⟩:=askW_zero hc
  obtain⟨q,rfl,rfl⟩:=hw
  refine Calls.mono (StM.abort2 h ho) ?_
  rintro e w' ⟨Y',rfl,r1,r2,r3,r4⟩
  exact⟨Y',none,by rw[hc],r1,fun e=>absurd hc e,fun _=>⟨q,rfl,rfl,r2,r3⟩,r4⟩
 ·refine Calls.mono (tabort_no HS (ne_bne hc)) ?_
  rintro e w' ⟨rfl,b⟩
  exact⟨fun k=>Y k/\k<w.heap.size,o,rfl,h.cut.below b,fun _=>rfl,fun e=>absurd e hc,fun k e=>Nat.lt_of_lt_of_le e.2 b.size,fun k _ e=>e.1,But.of_below b⟩
theorem StO.begin{c:Nat}{s:Js}(h:StO Y w j c p st nb K fr bl d s o) :
  Calls Tryz.prog 26 #[.pointer (some ⟨st,0,none⟩)] w fun e w'=>∃tv Y' o',e=.returned (.tuple #[tv,.int .i64 (bgC d.off o.isSome)])/\StO Y' w' j c p st nb K fr bl d s o'/\(bgC d.off o.isSome≠0->o'=o/\tv=.pointer none)/\(bgC d.off o.isSome=0->o=none/\∃t x m,o'=some ⟨t,x,m,0,fun _=>none,[],[],fun _=>[]⟩/\tv=.pointer (some ⟨t,0,none⟩)/\w.heap.size<=t)/\(∀k,Y' k->k<w'.heap.size)/\Gr Y Y' w/\But Y w w':=by
 obtain⟨Z,hJ,_,hS,_⟩:=h.jq
 unfold bgC
 cases ho:d.off with
 | true=>
  have HA:=sask_any hJ hS
  rw[ho]at HA
  refine Calls.mono (sbegin_no HA (by decide)) ?_
  rintro e w' ⟨rfl,b⟩
  exact⟨_,fun k=>Y k/\k<w.heap.size,o,rfl,h.cut.below b,fun _=>⟨rfl,rfl⟩,fun e=>(by simp at e),fun k e=>Nat.lt_of_lt_of_le e.2 b.size,fun k _ e=>e.1,But.of_below b⟩
 | false=>
  cases o with
  | none=>
   refine Calls.mono (StA.begin2 h ho) ?_
   rintro e w' ⟨t,x,m,Y',rfl,r1,r2,r3⟩
   exact⟨_,Y',some ⟨t,x,m,0,fun _=>none,[],[],fun _=>[]⟩,rfl,r1,fun e=>absurd rfl e,fun _=>⟨rfl,t,x,m,rfl,rfl,r2⟩,r3⟩
  | some q=>
   refine Calls.mono (sbegin_open hJ ho hS) ?_
   rintro e w' ⟨rfl,b⟩
   exact⟨_,fun k=>Y k/\k<w.heap.size,some q,rfl,h.cut.below b,fun _=>⟨rfl,rfl⟩,fun e=>(by simp at e),fun k e=>Nat.lt_of_lt_of_le e.2 b.size,fun k _ e=>e.1,But.of_below b⟩
theorem StO.flushOff{c:Nat}{s:Js}(h:StO Y w j c p st nb K fr bl d s o)(ho:d.off=true) :
  Calls Tryz.prog 30 #[.pointer (some ⟨st,0,none⟩)] w fun e w'=>e=.returned (.int .i64 24)/\Below w.heap.size w w':=by
 obtain⟨Z,hJ,_,hS,_⟩:=h.jq
 have HA:=sask_any hJ hS
 rw[ho]at HA
 exact sflush_no HA (by decide)
theorem StO.owns{c:Nat}{s:Js}(h:StO Y w j c p st nb K fr bl d s o)(hw:PWho w j st o tv who) :
  Calls Tryz.prog 31 #[.pointer (some ⟨st,0,none⟩),tv] w fun e w'=>e=.returned (.int .i64 (askW who d.off))/\Below w.heap.size w w':=by
 obtain⟨Z,hJ,_,hS,_⟩:=h.jq
 cases who with
 | none=>
  obtain rfl:=hw
  exact sowns_nil w _
 | some b=>
  have HB:=h.askB hw
  have ht:∃t fv wv,tv=.pointer (some ⟨t,0,none⟩)/\Txb w t j fv st wv:=by
   cases b with
   | true=>
    obtain⟨q,rfl,e⟩:=hw
    obtain⟨_,_,_,_,_,_,q3,_⟩:=h
    exact⟨q.t,_,_,e,q3⟩
   | false=>
    obtain⟨t,e,ht⟩:=hw
    exact⟨t,_,_,e,ht⟩
  obtain⟨t,fv,wv,rfl,ht⟩:=ht
  cases ho:d.off with
  | true=>exact sowns_off hJ ho hS _
  | false=>
   rw[ho]at HB
   exact sowns_own hJ ho hS ht HB
open Go.RowKit Go.Deep
def Hc (nb fr bl:Nat) (home:Nat->List Int) (Ts:List Tn) (Fs:List ByteArray) (Ds:List (List Pu)) (lo:Nat) (sure:Int):Prop :=
 ∃δ su:Nat,sure=(su:Int)/\lo=su+δ/\Ts.length=Ds.length+δ/\su<=Ds.length/\∀k,su<=k->k<=Ds.length->∀y,HomeB nb fr bl y->∀F,Fs[y]?=some F->strOfNums (contT home Ts (k+δ) y)=holdsU (y:Int) F (Ds.take k)
theorem Hc.now{home:Nat->List Int}{sure:Int}(h:Hc nb fr bl home Ts Fs Ds lo sure):∀y,HomeB nb fr bl y->∀F,Fs[y]?=some F->strOfNums (contT home Ts Ts.length y)=holdsU (y:Int) F Ds:=fun y hy F hF=>by
 obtain⟨δ,su,_,_,e3,e4,e5⟩:=h
 have:=e5 Ds.length e4 (Nat.le_refl _) y hy F hF
 rwa [List.take_length,<- e3]at this
theorem Hc.commit{home:Nat->List Int}{sure:Int}{A:Nat->Option (List Int)}{ps:List Pu}(h:Hc nb fr bl home Ts Fs Ds lo sure)(hl:Lku nb fr bl A ps):Hc nb fr bl home (Ts++[putsL nb A]) Fs (Ds++[ps]) lo sure:=by
 have hn:=h.now
 obtain⟨δ,su,e1,e2,e3,e4,e5⟩:=h
 refine⟨δ,su,e1,e2,by simp;omega,by simp;omega,fun k k1 k2 y hy F hF=>?_⟩
 by_cases hk:k<=Ds.length
 ·rw[<- contT_more home Ts _ (by omega),List.take_append_of_le_length hk]
  exact e5 k k1 hk y hy F hF
 ·have hk2:k=Ds.length+1:=by simp at k2;omega
  have e6:=contT_putsL home Ts nb A hy.1
  have e7:k+δ=(Ts++[putsL nb A]).length:=by simp;omega
  rw[e7,e6,List.take_of_length_le (by simp;omega),holdsU_snoc,layU_last,hl.last y,<- hn y hy F hF]
  cases A y <;> rfl
theorem Hc.flush{home:Nat->List Int}{sure:Int}(h:Hc nb fr bl home Ts Fs Ds lo sure):Hc nb fr bl home Ts Fs Ds Ts.length (Ds.length:Int):=by
 obtain⟨δ,su,e1,e2,e3,e4,e5⟩:=h
 exact⟨δ,Ds.length,rfl,e3,e3,Nat.le_refl _,fun k k1 k2=>e5 k (by omega) k2⟩
theorem Hc.lo_le{home:Nat->List Int}{sure:Int}(h:Hc nb fr bl home Ts Fs Ds lo sure):lo<=Ts.length/\∃su:Nat,sure=(su:Int)/\su<=Ds.length:=by
 obtain⟨δ,su,e1,e2,e3,e4,e5⟩:=h
 exact⟨by omega,su,e1,e4⟩
theorem Hc.found{home:Nat->List Int}{sure:Int}(h:Hc nb fr bl home Ts Fs Ds lo sure)(h1:lo<=n)(h2:n<=Ts.length):∃k0:Nat,sure<=(k0:Int)/\k0<=Ds.length/\k0<=n/\∀y,HomeB nb fr bl y->∀F,Fs[y]?=some F->strOfNums (contT home (Ts.take n) (Ts.take n).length y)=holdsU (y:Int) F (Ds.take k0):=by
 obtain⟨δ,su,e1,e2,e3,e4,e5⟩:=h
 have hn:n=(n-δ)+δ:=by omega
 refine⟨n-δ,by omega,by omega,by omega,fun y hy F hF=>?_⟩
 have:=e5 (n-δ) (by omega) (by omega) y hy F hF
 rw[<- hn]at this
 rw[<- this,List.length_take,Nat.min_eq_left h2,<- contT_take home Ts (Nat.le_refl n)]
theorem Hc.next{home:Nat->List Int}(hk:k<=Ds.length)(hkn:k<=Ts.length)(h:∀y,HomeB nb fr bl y->∀F,Fs[y]?=some F->strOfNums (contT home Ts Ts.length y)=holdsU (y:Int) F (Ds.take k)):Hc nb fr bl home Ts Fs (Ds.take k) Ts.length (k:Int):=by
 refine⟨Ts.length-k,k,rfl,by omega,by rw[List.length_take,Nat.min_eq_left hk];omega,by rw[List.length_take];omega,fun k' h1 h2 y hy F hF=>?_⟩
 rw[List.length_take,Nat.min_eq_left hk]at h2
 have e:k'=k:=by omega
 subst e
 rw[List.take_take,Nat.min_self,show k'+(Ts.length-k')=Ts.length by omega]
 exact h y hy F hF
theorem On.fuse{s:Js}{home:Nat->List Int}(h:On d s nb fr bl lo home Ts)(f:Int):On ⟨d.img,d.puts,f,d.off⟩ s nb fr bl lo home Ts:=by
 obtain⟨⟨q,base,ts,k,h1⟩,h2,h3,h4⟩:=h
 exact⟨⟨q,base,ts,k,⟨⟨h1.sole.hd,h1.sole.head,h1.sole.cont⟩,h1.rd,h1.pl,h1.l0,h1.used,h1.seq,h1.ah⟩⟩,h2,h3,h4⟩
theorem Cut.set{home:Nat->List Int}(h:Cut d nb fr bl lo home Ts)(f:Int)(o:Bool):Cut ⟨d.img,d.puts,f,o⟩ nb fr bl lo home Ts:=⟨h.g,h.pl⟩
end Go.Proofs.YthfojpcibnfmgaaGreat
