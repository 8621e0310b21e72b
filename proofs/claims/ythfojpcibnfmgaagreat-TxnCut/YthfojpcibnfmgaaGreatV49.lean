import Derived.Test.YthfojpcibnfmgaaGreatV47
import Derived.Test.YthfojpcibnfmgaaGreatV48
set_option maxRecDepth 100000
set_option maxHeartbeats 16000000
namespace Go.Proofs.YthfojpcibnfmgaaGreat
variable {Q Q' Y:Nat->Prop}
variable {w w' w0 w1:World}
variable {K M ib ic kk n p sc st:Nat}
variable {sa:Option Addr}
variable {As:List Aw}
variable {wv:Value}
variable {Ts:List Tn}
open Go.RowKit Go.Deep
variable {Gm:Nat×Nat×Nat}
def Tcs (Gm:Nat×Nat×Nat) (Q:Nat->Prop) (w0:World) (M ob:Nat) (wr:World):Prop:=∃(B:Nat->Prop) (Y:Nat->Prop) (v:Dv),Dq Y wr ob v/\Rl Gm M v/\(∀k,B k ↔ Ball Y ob v k)/\v.d.off=false/\(∀k,Q k->¬B k)/\But (fun k=>¬Q k) w0 wr
theorem Tcs.low{ob:Nat}{wr:World}(h:Tcs Gm Q w0 M ob wr)(b:Below wr.heap.size wr w'):Tcs Gm Q w0 M ob w':=by
 obtain⟨B,Y,v,h1,h2,h3,h4,h5,h6⟩:=h
 exact⟨B,Y,v,h1.low b,h2,h3,h4,h5,h6.trans (But.of_below b)⟩
theorem Tcs.anew{ob:Nat}{wr:World}(h:Tcs Gm Q w0 M ob wr)(hQ:∀k,Q' k->Q k\/(wr.heap.size<=k))(b:Below wr.heap.size wr w'):Tcs Gm Q' w' M ob w':=by
 obtain⟨B,Y,v,h1,h2,h3,h4,h5,h6⟩:=h
 refine⟨B,Y,v,h1.low b,h2,h3,h4,fun k e1 e2=>?_,But.refl _ _⟩
 rcases hQ k e1 with q | q
 ·exact h5 k q e2
 ·have:=h1.lt ((h3 k).1 e2)
  omega
theorem Tcs.base{ob:Nat}{wr:World}(h:Tcs Gm Q w0 M ob wr):But (fun k=>¬Q k) w0 wr:=by
 obtain⟨B,Y,v,h1,h2,h3,h4,h5,h6⟩:=h
 exact h6
theorem Tcs.fuse{ob:Nat}{wr:World}(h:Tcs Gm Q w0 M ob wr)(hQ:∀k,Q k->k<w0.heap.size)(f:Int)(hf1:-1<=f)(hf2:f<=9223372036854775807):∃p,wr.cell? ⟨ob,0,none⟩=some (.pointer (some ⟨p,0,none⟩))/\Calls Tryz.prog 17 #[.pointer (some ⟨p,0,none⟩),.int .i64 f] wr fun e w1=>∃x,e=.returned (.int .i64 x)/\w1.cell? ⟨ob,0,none⟩=some (.pointer (some ⟨p,0,none⟩))/\Tcs Gm Q w0 M ob w1:=by
 obtain⟨B,Y,v,h1,h2,h3,h4,h5,h6⟩:=h
 refine⟨v.p,h1.R.cells.1,?_⟩
 refine Calls.mono (h1.P.pg.fuseF h4 f hf1 hf2) ?_
 rintro e w1 ⟨x,Y',rfl,q1,q2,q3,q4⟩
 obtain⟨hR1,_⟩:=h1.prog q4 q3
 obtain⟨D3,g3,c3⟩:=h1.both2 q4 q3 q2 q1 (fun q9 e9=>.inl ⟨q9,e9,rfl⟩) (But.refl _ _) hR1.rf rfl (fun k hk=>.inl hk) (fun t9 e9=>.inl ⟨t9,e9,rfl⟩) h1.lk
 have hs0:=h6.size
 refine⟨x,rfl,D3.R.cells.1,Ball Y' ob { v with K:=v.K,d:=⟨v.d.img,v.d.puts,f,v.d.off⟩,s:=v.s,o:=v.o,r:=v.r },Y',_,D3,⟨h2.off,fun e=>?_,fun e=>?_,h2.pl,h2.both,h2.op,h2.kb,h2.db,h2.xb,h2.lo,h2.fit,h2.nb,h2.gr,h2.fs⟩,fun _=>Iff.rfl,h4,fun k e1 e2=>?_,?_⟩
 ·obtain⟨lo,home,Ts,k1,k2,k3⟩:=h2.on e
  exact⟨lo,home,Ts,k1.fuse f,k2,k3⟩
 ·obtain⟨lo,home,Ts,k1,k2,k3⟩:=h2.ct e
  exact⟨lo,home,Ts,k1.set f _,k2,k3⟩
 ·have hk:=hQ k e1
  refine h5 k e1 ((h3 k).2 ?_)
  rcases e2 with e2 | e2 | ⟨y,hy,rfl⟩
  ·exact .inl (q3 k (by omega) e2)
  ·rcases g3 k e2 with q | q
   ·exact .inr (.inl q)
   ·omega
  ·exact .inr (.inr ⟨y,hy,rfl⟩)
 ·exact h6.comp c3 (fun k _ e1 e2=>h5 k e2 ((h3 k).2 (e1.elim .inl (fun q=>.inr (.inl q)))))
def Edw (Gm:Nat×Nat×Nat) (Q:Nat->Prop) (w0:World) (M ob:Nat) (wv:Value) (ways:List Pu) (w:World):Prop:=∃Y v,Ed Gm M Y w ob v ways/\(∀k,Q k->¬Edset Y ob v k)/\But (fun k=>¬Q k) w0 w/\WayR w0 w (Edset Y ob v) wv ways
theorem Tcs.lives{ob:Nat}(h:Tcs Gm Q w0 M ob w1)(hQ:∀k,Q k->k<w0.heap.size)(hS:Scr Q w0 sa As)(hM:M+As.length+2<=268435455)(live:Bool):Calls Tryz.prog 18 #[.pointer (some ⟨ob,0,none⟩),.slice sa As.length sc,.bool live] w1 fun e w2=>∃wv ways,e=.returned (.tuple #[wv,.bool true])/\Edw Gm Q w0 (M+As.length+1) ob wv ways w2:=by
 obtain⟨B,Y,v,h1,h2,h3,h4,h5,h6⟩:=h
 have hs:=h6.size
 refine Calls.mono (lives_any (Q:=Q) ⟨B,Y,v,h1,h2,h3,h4,Gr.refl _ _,But.refl _ _⟩ (hS.but h6) h5 (fun k e=>Nat.lt_of_lt_of_le (hQ k e) hs) hM live) ?_
 rintro e w2 ⟨wv,ways,Y2,v2,rfl,q1,q2,q3,q4⟩
 refine⟨wv,ways,rfl,Y2,v2,q1,fun k e1 e2=>h5 k e1 (q2 k (Nat.lt_of_lt_of_le (hQ k e1) hs) e2),h6.comp q3 (fun k _ e1 e2=>h5 k e2 e1),?_⟩
 rcases q4 with q4 | ⟨r1,g,c,r2,r3,r4,r5⟩
 ·exact .inl q4
 ·exact .inr ⟨r1,g,c,r2,r3,by omega,r5⟩
def Eds (Gm:Nat×Nat×Nat) (Q:Nat->Prop) (w0:World) (M ob:Nat) (w:World):Prop:=∃Y v,Ed Gm M Y w ob v []/\(∀k,Q k->¬Edset Y ob v k)/\But (fun k=>¬Q k) w0 w
theorem Ed.low{ob:Nat}{v:Dv}{ways:List Pu}(h:Ed Gm M Y w ob v ways)(b:Below w.heap.size w w'):Ed Gm M Y w' ob v ways:={ h with
 P:=h.P.below b
 yb:=fun k e=>Nat.lt_of_lt_of_le (h.yb k e) b.size
 c0:=(b.cell (p:=⟨ob,0,none⟩) h.ol).trans h.c0
 c2:=(b.cell (p:=⟨ob,2,none⟩) h.ol).trans h.c2
 ol:=Nat.lt_of_lt_of_le h.ol b.size
 R:=h.R.keep (fun k hk=>b.block k (h.R.lt hk)) }
theorem Eds.low{ob:Nat}(h:Eds Gm Q w0 M ob w)(b:Below w.heap.size w w'):Eds Gm Q w0 M ob w':=by
 obtain⟨Y,v,h1,h2,h3⟩:=h
 exact⟨Y,v,h1.low b,h2,h3.trans (But.of_below b)⟩
theorem Edw.push{ob:Nat}{ways:List Pu}(h:Edw Gm Q w0 M ob wv ways w)(hQ:∀k,Q k->k<w0.heap.size)(hM:M<=268435455) :
  (ways=[]/\wv=.slice none 0 0/\Eds Gm Q w0 (M+1) ob w)\/(∃g c rb da dn dc xs,wv=.slice (some ⟨g,0,none⟩) ways.length c/\0<ways.length/\ways.length<=268435455/\dn<=268435455/\∀w3,Below w.heap.size w w3->w3.cell? ⟨ob,2,none⟩=some (.pointer (some ⟨rb,0,none⟩))/\w3.cell? ⟨rb,4,none⟩=some (.slice da dn dc)/\rowD w3 60 (.slice da dn dc) dn xs/\∀w6 g6 c6,w6.ownsRow 0 60 1 (.slice (some ⟨g6,0,none⟩) (dn+1) c6) (dn+1) (xs++[wv])->w3.grownBy w6 (Value.slice da dn dc).ownBlock->((Value.slice da dn dc).ownBlock=some g6\/g6=w3.heap.size)->w6.cell? ⟨ob,2,none⟩=some (.pointer (some ⟨rb,0,none⟩))/\(∃old,w6.cell? ⟨rb,4,none⟩=some old)/\w6.frozen? ⟨rb,4,none⟩=false/\(w6.setCell ⟨rb,4,none⟩ (.slice (some ⟨g6,0,none⟩) (dn+1) c6)).cell? ⟨ob,2,none⟩=some (.pointer (some ⟨rb,0,none⟩))/\Eds Gm Q w0 (M+1) ob (w6.setCell ⟨rb,4,none⟩ (.slice (some ⟨g6,0,none⟩) (dn+1) c6))):=by
 obtain⟨Y,v,h1,h2,h3,h4⟩:=h
 rcases h4 with ⟨rfl,rfl⟩ | ⟨hne,g,c,rfl,hrow,hg0,hgn⟩
 ·exact .inl ⟨rfl,rfl,Y,v,h1.mono (Nat.le_succ M),h2,h3⟩
 ·obtain⟨da,dc,hdv,_⟩:=h1.R.done
  have hwl:=h1.wl
  have hdb:=h1.db
  have hlen:0<ways.length:=List.length_pos_iff.2 hne
  refine .inr ⟨g,c,v.r.rb,da,v.r.Ds.length,dc,rowsD v.r.rs v.r.Ds,rfl,hlen,by omega,by omega,fun w3 b3=>?_⟩
  have e3:=h1.low b3
  obtain⟨ov,s3⟩:=e3.R.sto
  have s3':=s3
  rw[hdv]at s3'
  have hd3:=e3.R.don
  rw[hdv]at hd3
  refine⟨e3.c2,(s3'.cell 4).trans rfl,hd3,fun w6 g6 c6 ho6 hg6 hl6=>?_⟩
  have hob:∀k,Rnset v.r k->k≠ob:=fun k hk e=>h1.rO (e ▸ hk)
  have hdvk:∀k,(Value.slice da v.r.Ds.length dc).ownBlock=some k->Rnset v.r k:=fun k e=>.inr (.inr (.inl (by rw[hdv];exact e)))
  have hrb:Rnset v.r v.r.rb:=.inl rfl
  have hkind:∀k,(Value.slice da v.r.Ds.length dc).ownBlock=some k->k≠v.r.rb:=fun k e=>by
   obtain⟨cur,hc⟩:=hd3.kind e
   exact kind_ne hc s3 (by decide)
  have b6:But (fun k=>(Value.slice da v.r.Ds.length dc).ownBlock=some k) w3 w6:=(But.refl _ _).of_grown hg6 (fun k e _=>e)
  have hol3:=e3.ol
  have c26:=(b6.cell (p:=⟨ob,2,none⟩) hol3 (fun e=>hob _ (hdvk ob e) rfl)).trans e3.c2
  have hrl3:=s3.lt
  have s6:=s3.keep (b6.block _ hrl3 (fun e=>hkind _ e rfl))
  have b7:But (fun k=>k=v.r.rb) w6 (w6.setCell ⟨v.r.rb,4,none⟩ (.slice (some ⟨g6,0,none⟩) (v.r.Ds.length+1) c6)):=(But.refl (fun k=>k=v.r.rb) w6).setCell (p:=⟨v.r.rb,4,none⟩) rfl _
  have sz6:=b6.size
  have hobrb:ob≠v.r.rb:=fun e=>hob _ hrb e.symm
  have c27:=(b7.cell (p:=⟨ob,2,none⟩) (by show ob<_;omega) hobrb).trans c26
  have s7:=s6.set4 (.slice (some ⟨g6,0,none⟩) (v.r.Ds.length+1) c6)
  have b37:But (fun k=>k=v.r.rb\/(Value.slice da v.r.Ds.length dc).ownBlock=some k) w3 (w6.setCell ⟨v.r.rb,4,none⟩ (.slice (some ⟨g6,0,none⟩) (v.r.Ds.length+1) c6)):=(b6.mono (fun k _ e=>.inr e)).comp b7 (fun k _ e=>.inl e)
  have hin:∀k,(k=v.r.rb\/(Value.slice da v.r.Ds.length dc).ownBlock=some k)->Rnset v.r k:=fun k e=>e.elim (fun q=>.inl q) (hdvk k)
  refine⟨c26,⟨_,(s6.cell 4).trans rfl⟩,s6.frozen 4,c27,Y,{ v with r:={ v.r with dv:=.slice (some ⟨g6,0,none⟩) (v.r.Ds.length+1) c6,Ds:=v.r.Ds++[ways],rs:=v.r.rs++[(g,c)] } },?_,?_,?_⟩
  ·have hkeep:∀(k:Nat) (cur:Array Value) (e:TypeId),w3.heap[k]?=some (Obj.cells cur e (0,0))->e≠67->e≠60->(w6.setCell ⟨v.r.rb,4,none⟩ (.slice (some ⟨g6,0,none⟩) (v.r.Ds.length+1) c6)).heap[k]?=w3.heap[k]?:=fun k cur e hc n1 n2=>b37.block k (Array.getElem?_eq_some_iff.1 hc).1 (fun e2=>by
    rcases e2 with e2 | e2
    ·exact kind_ne hc s3 n1 e2
    ·obtain⟨cu,hcu⟩:=hd3.kind e2
     exact kind_ne hc hcu n2 rfl)
   have hset:∀k,Rnset { v.r with dv:=.slice (some ⟨g6,0,none⟩) (v.r.Ds.length+1) c6,Ds:=v.r.Ds++[ways],rs:=v.r.rs++[(g,c)] } k->Rnset v.r k\/k=g6/\w.heap.size<=k\/k=g:=fun k hk=>by
    rcases hk with hk | hk | hk | ⟨x,hx,hk⟩
    ·exact .inl (.inl hk)
    ·exact .inl (.inr (.inl hk))
    ·have:g6=k:=by simpa [Value.ownBlock] using hk
     subst this
     rcases hl6 with e | e
     ·exact .inl (hdvk g6 e)
     ·have:=b3.size
      exact .inr (.inl ⟨rfl,by omega⟩)
    ·rcases List.mem_append.1 hx with q | q
     ·exact .inl (.inr (.inr (.inr ⟨x,q,hk⟩)))
     ·obtain rfl:x=(g,c):=by simpa using q
      exact .inr (.inr hk)
   have hgl:=(World.ownsRow.lt hrow g rfl).2
   refine { e3.mono (Nat.le_succ M) with
    P:=e3.P.keep b37 (fun k _ e1 e2=>h1.nR k (hin k e1) e2)
    yb:=fun k e=>Nat.lt_of_lt_of_le (e3.yb k e) b37.size
    c0:=(b37.cell (p:=⟨ob,0,none⟩) hol3 (fun e=>hob _ (hin ob e) rfl)).trans e3.c0
    c2:=c27
    ol:=Nat.lt_of_lt_of_le hol3 b37.size
    R:=⟨⟨ov,s7⟩,?_,e3.R.fsl,?_,?_,fun i x ps k1 k2=>?_⟩
    nR:=fun k hk e=>?_
    rO:=fun e=>?_
    on:=fun e=>?_
    ct:=fun e=>?_
    wl:=Nat.zero_le _
    db:=⟨?_,fun ps hps=>?_⟩ }
   ·refine owns_keep e3.R.fst (fun k e=>?_)
    obtain⟨cur,hcu⟩:=rowKind e3.R.fst e
    exact hkeep k cur _ hcu (by decide) (by decide)
   ·show rowD _ 60 (.slice (some ⟨g6,0,none⟩) (v.r.Ds.length+1) c6) (v.r.Ds++[ways]).length (rowsD (v.r.rs++[(g,c)]) (v.r.Ds++[ways]))
    rw[rowsD_snoc h1.R.rsl,List.length_append]
    refine rowD.own (owns_keep ho6 (fun k e=>?_))
    have:g6=k:=by simpa [Value.ownBlock] using e
    subst this
    obtain⟨cur,hcu⟩:=rowKind ho6 (k:=g6) rfl
    exact b7.block g6 (Array.getElem?_eq_some_iff.1 hcu).1 (kind_ne hcu s6 (by decide))
   ·show (v.r.rs++[(g,c)]).length=(v.r.Ds++[ways]).length
    simp[h1.R.rsl]
   ·have k1':(v.r.rs++[(g,c)])[i]?=some x:=k1
    have k2':(v.r.Ds++[ways])[i]?=some ps:=k2
    by_cases hi:i<v.r.rs.length
    ·rw[List.getElem?_append_left hi]at k1'
     rw[List.getElem?_append_left (by rw[<- h1.R.rsl];exact hi)]at k2'
     refine owns_keep (e3.R.din i x ps k1' k2') (fun k e=>?_)
     obtain⟨cur,hcu⟩:=rowKind (e3.R.din i x ps k1' k2') e
     exact hkeep k cur _ hcu (by decide) (by decide)
    ·have hi2:i=v.r.rs.length:=by
      have:=(List.getElem?_eq_some_iff.1 k1').1
      simp at this
      omega
     subst hi2
     rw[h1.R.rsl]at k2'
     simp at k1' k2'
     subst k1' k2'
     refine owns_keep (owns_below hrow b3) (fun k e=>?_)
     obtain⟨cur,hcu⟩:=rowKind (owns_below hrow b3) e
     exact hkeep k cur _ hcu (by decide) (by decide)
   ·rcases hset k hk with q | ⟨rfl,q⟩ | rfl
    ·exact h1.nR k q e
    ·have:=h1.yb _ e
     omega
    ·exact hgn (.inl e)
   ·rcases hset ob e with q | ⟨_,q⟩ | q
    ·exact h1.rO q
    ·have:=h1.ol
     omega
    ·exact hgn (.inr (.inr q.symm))
   ·exact absurd ((h1.on e).1) hne
   ·obtain⟨lo,home,Ts,q1,q2,q3⟩:=h1.ct e
    have hw:wayL ways=[ways]:=by
     unfold wayL
     cases ways with
     | nil=>exact absurd rfl hne
     | cons _ _=>rfl
    rw[hw]at q2
    show ∃lo,∃home Ts,Cut v.d v.nb v.fr v.bl lo home Ts/\Hc v.nb v.fr v.bl home Ts v.r.Fs ((v.r.Ds++[ways])++[]) lo v.r.sure/\Ts.length<=M+1
    rw[List.append_nil]
    exact⟨lo,home,Ts,q1,q2,by omega⟩
   ·show (v.r.Ds++[ways]).length+134217728<=M+1
    rw[List.length_append,List.length_singleton]
    omega
   ·have hps':ps∈v.r.Ds++[ways]:=hps
    rcases List.mem_append.1 hps' with q | q
    ·exact Nat.le_succ_of_le (hdb.2 ps q)
    ·obtain rfl:ps=ways:=by simpa using q
     omega
  ·intro k e1 e2
   have hk0:¬Edset Y ob v k:=h2 k e1
   rcases e2 with e2 | e2 | e2
   ·exact hk0 (.inl e2)
   ·rcases e2 with e2 | e2 | e2 | ⟨x,hx,e2⟩
    ·exact hk0 (.inr (.inl (.inl e2)))
    ·exact hk0 (.inr (.inl (.inr (.inl e2))))
    ·have:g6=k:=by simpa [Value.ownBlock] using e2
     subst this
     rcases hl6 with e | e
     ·exact hk0 (.inr (.inl (hdvk g6 e)))
     ·have:=hQ _ e1
      have:=b3.size
      have:=h3.size
      omega
    ·rcases List.mem_append.1 hx with q | q
     ·exact hk0 (.inr (.inl (.inr (.inr (.inr ⟨x,q,e2⟩)))))
     ·obtain rfl:x=(g,c):=by simpa using q
      have:=hQ _ e1
      have e2':k=g:=e2
      omega
   ·exact hk0 (.inr (.inr e2))
  ·exact (h3.trans (But.of_below b3)).comp b37 (fun k _ e1 e2=>h2 k e2 (.inr (.inl (hin k e1))))
open Go.RowKit Go.Deep
variable {Gm:Nat×Nat×Nat}
structure Img (w:World) (nb:Nat) (d:Pd) (ib ic:Nat) (I:List Int):Prop where
 own:Own w ib (512 * nb) ic I
 isb:Pl.isB I
 len:I.length=512 * nb
 ps:∀x,x<nb->d.poss x (imgB I x)
def Edi (Gm:Nat×Nat×Nat) (Q:Nat->Prop) (w0:World) (M ob:Nat) (ib ic:Nat) (w:World):Prop:=∃Y v I,Ed Gm M Y w ob v []/\(∀k,Q k->¬Edset Y ob v k)/\But (fun k=>¬Q k) w0 w/\Img w v.nb v.d ib ic I
theorem Eds.left{ob:Nat}(h:Eds Gm Q w0 M ob w)(ka:Option Addr)(kn kc:Nat)(hkn:kn<=1073741824)(hK:RdB w ka kn):∃p,w.cell? ⟨ob,0,none⟩=some (.pointer (some ⟨p,0,none⟩))/\Calls Tryz.prog 19 #[.pointer (some ⟨p,0,none⟩),.slice ka kn kc] w fun e w4=>∃ib ic,e=.returned (.slice (some ⟨ib,0,none⟩) (512 * Gm.1) ic)/\w4.cell? ⟨ob,0,none⟩=some (.pointer (some ⟨p,0,none⟩))/\Edi Gm Q w0 M ob ib ic w4:=by
 obtain⟨Y,v,h1,h2,h3⟩:=h
 obtain⟨Z,hJ,hZ,_⟩:=h1.P.jq
 refine⟨v.p,h1.c0,?_⟩
 have hpl:=h1.pl
 have hnb:=h1.nb
 refine Calls.mono (left_any hJ.dk.1 hJ.fits.1 (by omega) ka kn kc hkn hK) ?_
 rintro e w4 ⟨ib,ic,I,rfl,q1,q2,q3,q4,q5,q6⟩
 refine⟨ib,ic,by rw[h1.gr],(h1.low q6).c0,Y,v,I,h1.low q6,h2,h3.trans (But.of_below q6),⟨q2,q3,q4,fun x _=>q5 x⟩⟩
structure Ros (Gm:Nat×Nat×Nat) (Q:Nat->Prop) (w0:World) (M ob p st K:Nat) (w:World) (Y:Nat->Prop) (j c nb fr bl K1:Nat) (d:Pd) (s:Js) (home:Nat->List Int) (Ts:List Tn) (r:Ra):Prop where
 gr:Gm=(nb,fr,bl)
 lo:16<=bl
 fit:fr+bl<=nb
 nbl:nb<=524288
 P:StO Y w j c p st nb K1 fr bl d s none
 kb:K1<=K
 yb:∀k,Y k->k<w.heap.size
 on:On d s nb fr bl Ts.length home Ts
 tl:Ts.length<=M
 R:Rdn w nb fr bl r
 c2:w.cell? ⟨ob,2,none⟩=some (.pointer (some ⟨r.rb,0,none⟩))
 ol:ob<w.heap.size
 nR:∀k,Rnset r k->¬Y k
 nO:¬Y ob
 rO:¬Rnset r ob
 fs:r.Fs=List.replicate nb (strOfNums (zeros 512))
 db:r.Ds.length+134217728<=M/\∀ps∈r.Ds,ps.length<=M
 qa:∀k,Q k->¬Y k/\¬Rnset r k
 bt:But (fun k=>¬Q k) w0 w
def Rop (Gm:Nat×Nat×Nat) (Q:Nat->Prop) (w0:World) (M ob p st kk K:Nat) (w:World):Prop:=∃Y j c nb fr bl K1 d s home Ts r,Ros Gm Q w0 M ob p st K w Y j c nb fr bl K1 d s home Ts r/\∃k0:Nat,kk<=k0/\k0<=r.Ds.length/\k0<=Ts.length/\Fnd nb fr bl home Ts r.Fs r.Ds k0
def Rof (Gm:Nat×Nat×Nat) (Q:Nat->Prop) (w0:World) (M ob p st kk K:Nat) (w:World):Prop:=∃Y j c nb fr bl K1 d s home Ts r,Ros Gm Q w0 M ob p st K w Y j c nb fr bl K1 d s home Ts r/\kk<=r.Ds.length/\kk<=Ts.length/\Fnd nb fr bl home Ts r.Fs r.Ds kk
theorem Ed.rop{ob:Nat}{v:Dv}(h:Ed Gm M Y w ob v [])(hQ:∀k,Q k->k<w0.heap.size)(h2:∀k,Q k->¬Edset Y ob v k)(h3:But (fun k=>¬Q k) w0 w)(b:But Y w w'){P:Nat->Prop}(hP:∀k,P k->Y k\/w.heap.size<=k){lo:Nat}{home:Nat->List Int}(hS:Std w' P p st v.nb v.fr v.bl n home (Ts.take n))(hn1:lo<=n)(hn2:n<=Ts.length)(hH:Hc v.nb v.fr v.bl home Ts v.r.Fs v.r.Ds lo v.r.sure)(hT:Ts.length<=M) :
  ∃rb su:Nat,v.r.sure=(su:Int)/\(w'.cell? ⟨ob,2,none⟩=some (.pointer (some ⟨rb,0,none⟩))/\w'.cell? ⟨rb,5,none⟩=some (.int .i64 (su:Int)))/\Rop Gm Q w0 M ob p st su 0 w':=by
 obtain⟨j,c,Z,d,s,q1,q2,q3,q4,q5,q6⟩:=hS
 obtain⟨_,su,hsu,_⟩:=hH.lo_le
 obtain⟨k0,k1,k2,k3,k4⟩:=hH.found hn1 hn2
 have e:(Ts.take n).length=n:=by rw[List.length_take];omega
 have hsz:=b.size
 have hs0:=h3.size
 have hR':=h.R.but b h.nR
 have c2':=(b.cell (p:=⟨ob,2,none⟩) h.ol h.nO).trans h.c2
 have hstl:=q3.lt
 have hold:∀k,(Z k\/k=st)->k<w.heap.size->Y k:=fun k e1 e2=>by
  rcases e1 with e1 | e1
  ·rcases hP k (q6 k e1).1 with q | q
   ·exact q
   ·omega
  ·subst e1
   rcases hP k q5 with q | q
   ·exact q
   ·omega
 obtain⟨ov,hs⟩:=hR'.sto
 refine⟨v.r.rb,su,hsu,⟨c2',by rw[<- hsu];exact (hs.cell 5).trans rfl⟩,fun k=>Z k\/k=st,j,c,v.nb,v.fr,v.bl,0,d,s,home,Ts.take n,v.r,⟨h.gr,h.lo,h.fit,h.nb,⟨Z,q1,fun k q=>.inl q,q3,q4,.inr rfl⟩,Nat.le_refl _,fun k q=>?_,by rw[e];exact q2,by rw[e];omega,hR',c2',by have:=h.ol;omega,fun k hk e1=>h.nR k hk (hold k e1 (h.R.lt hk)),fun e1=>h.nO (hold ob e1 h.ol),h.rO,h.fs,h.db,fun k e1=>⟨fun e2=>?_,fun e2=>h2 k e1 (.inr (.inl e2))⟩,h3.comp b (fun k _ e1 e2=>h2 k e2 (.inl e1))⟩,k0,by omega,k2,by rw[e];omega,k4⟩
 ·rcases q with q | q
  ·exact (q6 k q).2
  ·omega
 ·have:=hQ k e1
  exact h2 k e1 (.inl (hold k e2 (by omega)))
def Edo (Gm:Nat×Nat×Nat) (Q:Nat->Prop) (w0:World) (M ob p:Nat) (w:World):Prop:=∃Y v n lo home Ts,Ed Gm M Y w ob v []/\(∀k,Q k->¬Edset Y ob v k)/\But (fun k=>¬Q k) w0 w/\lo<=n/\n<=Ts.length/\Hc v.nb v.fr v.bl home Ts v.r.Fs v.r.Ds lo v.r.sure/\Ts.length<=M/\∃B0,Offd w B0 p v.nb v.fr v.bl n home (Ts.take n)
def RopS (Gm:Nat×Nat×Nat) (Q:Nat->Prop) (w0:World) (M ob p st:Nat) (w:World):Prop:=∃rb su:Nat,(w.cell? ⟨ob,2,none⟩=some (.pointer (some ⟨rb,0,none⟩))/\w.cell? ⟨rb,5,none⟩=some (.int .i64 (su:Int)))/\Rop Gm Q w0 M ob p st su 0 w
theorem Edi.anew{ob:Nat}(h:Edi Gm Q w0 M ob ib ic w)(hQ:∀k,Q k->k<w0.heap.size)(re:Int)(fuse:Int)(v1 v2 v3:Value) :
  Calls Tryz.prog 20 #[.pointer (some ⟨ob,0,none⟩),.slice (some ⟨ib,0,none⟩) (512 * Gm.1) ic,.agg #[.int .i64 (Gm.2.1:Int),.int .i64 (Gm.2.2:Int),.int .i64 re],.agg #[.int .i64 fuse,v1,v2,v3]] w fun e w'=>But (fun k=>¬Q k) w0 w'/\((∃p st,e=.returned (.tuple #[.pointer (some ⟨p,0,none⟩),.pointer (some ⟨st,0,none⟩),.bool true])/\RopS Gm Q w0 M ob p st w')\/(∃p,e=.returned (.tuple #[.pointer (some ⟨p,0,none⟩),.pointer none,.bool true])/\Edo Gm Q w0 M ob p w')):=by
 obtain⟨Y,v,I,h1,h2,h3,h4⟩:=h
 have hg:=h1.gr
 rw[hg]
 show Calls Tryz.prog 20 #[.pointer (some ⟨ob,0,none⟩),.slice (some ⟨ib,0,none⟩) (512 * v.nb) ic,.agg #[.int .i64 (v.fr:Int),.int .i64 (v.bl:Int),.int .i64 re],.agg #[.int .i64 fuse,v1,v2,v3]] w _
 rw[<- hg]
 cases hoff:v.d.off with
 | true=>
  obtain⟨lo,home,Ts,k1,k2,k3⟩:=h1.ct hoff
  have k2':Hc v.nb v.fr v.bl home Ts v.r.Fs v.r.Ds lo v.r.sure:=by
   have:v.r.Ds++wayL []=v.r.Ds:=List.append_nil _
   rwa [this]at k2
  obtain⟨Z,hJ,hZ,_⟩:=h1.P.jq
  refine Calls.mono (anew_off h1.c0 h1.ol hJ.dk.1 hoff k1 h4.ps h4.len h4.isb h1.lo h1.fit h1.nb re ib ic h4.own fuse v1 v2 v3) ?_
  rintro e w' ⟨b,p,n,n1,n2,⟨st,rfl,hS⟩ | ⟨_,rfl,hO⟩⟩
  ·refine⟨h3.trans (But.of_below b),.inl ⟨p,st,rfl,?_⟩⟩
   obtain⟨rb,su,_,q1,q2⟩:=h1.rop hQ h2 h3 ((But.of_below b).mono (X:=fun _=>False) (fun _ _ q=>q.elim)) (fun k q=>.inr q) hS n1 n2 k2' k3
   exact⟨rb,su,q1,q2⟩
  ·exact⟨h3.trans (But.of_below b),.inr ⟨p,rfl,Y,v,n,lo,home,Ts,h1.low b,h2,h3.trans (But.of_below b),n1,n2,k2',k3,_,hO⟩⟩
 | false=>
  obtain⟨_,lo,home,Ts,k1,k2,k3⟩:=h1.on hoff
  refine Calls.mono (anew_on h1.P k1 h1.c0 h1.ol h1.nO h1.yb h1.lo h1.fit h1.nb re _ _ v1 v2 v3) ?_
  rintro e w' ⟨b,st,rfl,hS⟩
  refine⟨h3.comp b (fun k _ e1 e2=>h2 k e2 (.inl e1)),.inl ⟨v.p,st,rfl,?_⟩⟩
  have hS':Std w' (fun k=>Y k\/w.heap.size<=k) v.p st v.nb v.fr v.bl Ts.length home (Ts.take Ts.length):=by rw[List.take_length];exact hS
  obtain⟨rb,su,_,q1,q2⟩:=h1.rop hQ h2 h3 b (fun k q=>q) hS' k2.lo_le.1 (Nat.le_refl _) k2 k3
  exact⟨rb,su,q1,q2⟩
theorem Edo.again{ob:Nat}(h:Edo Gm Q w0 M ob p w)(hQ:∀k,Q k->k<w0.heap.size)(ka:Option Addr)(kn kc:Nat)(hkn:kn<=1073741824)(hK:RdB w ka kn)(re:Int) :
  Calls Tryz.prog 19 #[.pointer (some ⟨p,0,none⟩),.slice ka kn kc] w fun e w4=>∃iv,e=.returned iv/\But (fun k=>¬Q k) w0 w4/\Calls Tryz.prog 21 #[iv,.agg #[.int .i64 (Gm.2.1:Int),.int .i64 (Gm.2.2:Int),.int .i64 re],.int .i64 (-1)] w4 fun e w'=>∃p st,e=.returned (.tuple #[.pointer (some ⟨p,0,none⟩),.pointer (some ⟨st,0,none⟩),.bool true])/\But (fun k=>¬Q k) w0 w'/\RopS Gm Q w0 M ob p st w':=by
 obtain⟨Y,v,n,lo,home,Ts,h1,h2,h3,n1,n2,hH,hT,B0,Z,d,q1,q2,q3,q4,q5⟩:=h
 have hpl:=q4.pl
 have hnb:=h1.nb
 refine Calls.mono (left_any q1 q3 (by omega) ka kn kc hkn hK) ?_
 rintro e w4 ⟨ib,ic,I,rfl,r1,r2,r3,r4,r5,r6⟩
 refine⟨_,rfl,h3.trans (But.of_below r6),?_⟩
 have hg:=h1.gr
 rw[hg]
 show Calls Tryz.prog 21 #[.slice (some ⟨ib,0,none⟩) (512 * v.nb) ic,.agg #[.int .i64 (v.fr:Int),.int .i64 (v.bl:Int),.int .i64 re],.int .i64 (-1)] w4 _
 rw[<- hg]
 refine Calls.mono (again_any q4 (fun x _=>r5 x) r4 r3 h1.lo h1.fit h1.nb re ib ic r2 (-1) (by decide)) ?_
 rintro e w' ⟨b,p',m,m1,m2,⟨st,rfl,hS⟩ | ⟨hneg,_⟩⟩
 ·have e1:(Ts.take n).length=n:=by rw[List.length_take];omega
  rw[e1]at m2
  have hmn:m=n:=by omega
  subst hmn
  rw[List.take_take,Nat.min_self]at hS
  refine⟨p',st,rfl,(h3.trans (But.of_below r6)).trans (But.of_below b),?_⟩
  obtain⟨rb,su,_,z1,z2⟩:=(h1.low r6).rop hQ h2 (h3.trans (But.of_below r6)) ((But.of_below b).mono (X:=fun _=>False) (fun _ _ q=>q.elim)) (fun k q=>.inr q) hS n1 n2 hH hT
  exact⟨rb,su,z1,z2⟩
 ·exact absurd hneg (by decide)
theorem Rop.found{ob:Nat}(h:Rop Gm Q w0 M ob p st kk K w)(hQ:∀k,Q k->k<w0.heap.size)(hM:M<=268435455)(hK:K<=1152921504606322688) :
  ∃rb da dn dc,(w.cell? ⟨ob,2,none⟩=some (.pointer (some ⟨rb,0,none⟩))/\w.cell? ⟨rb,4,none⟩=some (.slice da dn dc))/\kk<=dn/\dn<=268435455/\dn+134217728<=M/\Calls Tryz.prog 22 #[.pointer (some ⟨ob,0,none⟩),.pointer (some ⟨st,0,none⟩),.int .i64 (kk:Int)] w fun e w'=>∃b,e=.returned (.bool b)/\(b=true->Rof Gm Q w0 M ob p st kk (K+Gm.1) w')/\(b=false->Rop Gm Q w0 M ob p st (kk+1) (K+Gm.1) w'):=by
 obtain⟨Y,j,c,nb,fr,bl,K1,d,s,home,Ts,r,h1,k0,e1,e2,e3,e4⟩:=h
 obtain⟨da,dc,hdv,_⟩:=h1.R.done
 obtain⟨ov,hs⟩:=h1.R.sto
 rw[hdv]at hs
 have hdb:=h1.db
 have hkb:=h1.kb
 have hnb:=h1.nbl
 refine⟨r.rb,da,r.Ds.length,dc,⟨h1.c2,(hs.cell 4).trans rfl⟩,by omega,by omega,hdb.1,?_⟩
 refine Calls.mono (found_any h1.P h1.yb h1.on h1.R h1.c2 h1.ol h1.nR h1.nO h1.lo h1.fit h1.nbl (by omega) kk (by omega) (by omega) (fun ps hps=>by have:=hdb.2 ps hps;omega)) ?_
 rintro e w' ⟨b,rfl,hb,K2,Y2,q1,q2,q3,q4,q5⟩
 have hg:Gm.1=nb:=by rw[h1.gr]
 have hsz:=q5.size
 have hs0:=h1.bt.size
 have hR':=h1.R.but q5 h1.nR
 have hn:Ros Gm Q w0 M ob p st (K+Gm.1) w' Y2 j c nb fr bl K2 d s home Ts r:=⟨h1.gr,h1.lo,h1.fit,h1.nbl,q2,by omega,q3,h1.on,h1.tl,hR',(q5.cell (p:=⟨ob,2,none⟩) h1.ol h1.nO).trans h1.c2,by have:=h1.ol;omega,fun k hk e=>h1.nR k hk (q4 k (h1.R.lt hk) e),fun e=>h1.nO (q4 ob h1.ol e),h1.rO,h1.fs,h1.db,fun k e=>⟨fun q=>(h1.qa k e).1 (q4 k ?_ q),(h1.qa k e).2⟩,h1.bt.comp q5 (fun k _ e1 e2=>(h1.qa k e2).1 e1)⟩
 rotate_left
 ·have:=hQ k e
  omega
 refine⟨b,rfl,fun e=>⟨Y2,j,c,nb,fr,bl,K2,d,s,home,Ts,r,hn,by omega,by omega,hb.1 e⟩,fun e=>⟨Y2,j,c,nb,fr,bl,K2,d,s,home,Ts,r,hn,k0,?_,e2,e3,e4⟩⟩
 rcases Nat.lt_or_ge kk k0 with q | q
 ·exact q
 ·have:kk=k0:=by omega
  subst this
  rw[hb.2 e4]at e
  cases e
def NewP (Gm:Nat×Nat×Nat) (Q:Nat->Prop) (w0:World) (M ob p st kk:Nat) (rb:Nat) (da:Option Addr) (dn dc:Nat) (w8:World) (r2:Nat):Prop:=(w8.cell? ⟨ob,2,none⟩=some (.pointer (some ⟨rb,0,none⟩))/\w8.cell? ⟨rb,0,none⟩=some (.int .i64 (Gm.1:Int))/\w8.cell? ⟨rb,1,none⟩=some (.int .i64 (Gm.2.1:Int))/\w8.cell? ⟨rb,2,none⟩=some (.int .i64 (Gm.2.2:Int)))/\w8.cell? ⟨rb,4,none⟩=some (.slice da dn dc)/\(∃old,w8.cell? ⟨r2,4,none⟩=some old)/\w8.frozen? ⟨r2,4,none⟩=false/\∀w9,w9=w8.setCell ⟨r2,4,none⟩ (.slice da kk kk)->(∃old,w9.cell? ⟨r2,5,none⟩=some old)/\w9.frozen? ⟨r2,5,none⟩=false/\∀wA,wA=w9.setCell ⟨r2,5,none⟩ (.int .i64 (kk:Int))->Tcs Gm Q w0 M wA.heap.size (wA.alloc (.cells #[.pointer (some ⟨p,0,none⟩),.pointer (some ⟨st,0,none⟩),.pointer (some ⟨r2,0,none⟩),.slice none 0 0,.slice none 0 0,.slice none 0 0,.int .i64 0] 58))
theorem Rof.new{ob:Nat}(h:Rof Gm Q w0 M ob p st kk K w)(hQ:∀k,Q k->k<w0.heap.size)(hK:K<=M) :
  ∃rb da dn dc,(w.cell? ⟨ob,2,none⟩=some (.pointer (some ⟨rb,0,none⟩))/\w.cell? ⟨rb,0,none⟩=some (.int .i64 (Gm.1:Int))/\w.cell? ⟨rb,1,none⟩=some (.int .i64 (Gm.2.1:Int))/\w.cell? ⟨rb,2,none⟩=some (.int .i64 (Gm.2.2:Int)))/\w.cell? ⟨rb,4,none⟩=some (.slice da dn dc)/\kk<=dn/\dn<=dc/\Calls Tryz.prog 23 #[.int .i64 (Gm.1:Int),.int .i64 (Gm.2.1:Int),.int .i64 (Gm.2.2:Int)] w fun e w8=>∃r2,e=.returned (.pointer (some ⟨r2,0,none⟩))/\NewP Gm Q w0 M ob p st kk rb da dn dc w8 r2:=by
 obtain⟨Y,j,c,nb,fr,bl,K1,d,s,home,Ts,r,h1,e1,e2,e3⟩:=h
 have hg:=h1.gr
 subst hg
 obtain⟨da,dc,hdv,_⟩:=h1.R.done
 obtain⟨ov,hs⟩:=h1.R.sto
 rw[hdv]at hs
 have hdb:=h1.db
 have hkb:=h1.kb
 have hnb:=h1.nbl
 have hndc:r.Ds.length<=dc:=by
  obtain⟨a9,c9,e9,hn9,_⟩:=h1.R.don.slice
  rw[hdv]at e9
  injection e9 with _ _ e9
  omega
 refine⟨r.rb,da,r.Ds.length,dc,⟨h1.c2,(hs.cell 0).trans rfl,(hs.cell 1).trans rfl,(hs.cell 2).trans rfl⟩,(hs.cell 4).trans rfl,e1,hndc,?_⟩
 refine Calls.mono (rnew5_any nb fr bl hnb w) ?_
 rintro e w8 ⟨lv,rfl,q1,q2,b8⟩
 refine⟨w.heap.size,rfl,?_⟩
 have z8:=b8.size
 have R8:=h1.R.keep (fun k hk=>b8.block k (h1.R.lt hk))
 have s8:=hs.keep (b8.block r.rb hs.lt)
 have hol:=h1.ol
 have hrbl:=hs.lt
 have hlvk:∀k,lv.ownBlock=some k->w.heap.size<k/\k<w8.heap.size:=fun k hk=>⟨by have:=owns_lo q2 hk;omega,(World.ownsRow.lt q2 k hk).2⟩
 have n1:Rs5 w8 w.heap.size nb fr bl lv (.slice none 0 0) 0 (.pointer none) false:=q1
 have n1l:=n1.lt
 refine⟨⟨(b8.cell (p:=⟨ob,2,none⟩) hol).trans h1.c2,(s8.cell 0).trans rfl,(s8.cell 1).trans rfl,(s8.cell 2).trans rfl⟩,(s8.cell 4).trans rfl,⟨_,(n1.cell 4).trans rfl⟩,n1.frozen 4,fun w9 hw9=>?_⟩
 subst hw9
 have n2:=n1.set4 (.slice da kk kk)
 refine⟨⟨_,(n2.cell 5).trans rfl⟩,n2.frozen 5,fun wA hwA=>?_⟩
 subst hwA
 have n3:=n2.set5 (kk:Int)
 obtain⟨wA,hwA⟩:∃wA,wA=(w8.setCell ⟨w.heap.size,4,none⟩ (.slice da kk kk)).setCell ⟨w.heap.size,5,none⟩ (.int .i64 (kk:Int)):=⟨_,rfl⟩
 rw[<- hwA]at n3 ⊢
 have bA:But (fun k=>k=w.heap.size) w8 wA:=by rw[hwA];exact ((But.refl (fun k=>k=w.heap.size) w8).setCell (p:=⟨w.heap.size,4,none⟩) rfl _).setCell (p:=⟨w.heap.size,5,none⟩) rfl _
 have zA:=bA.size
 have szA:wA.heap.size=w8.heap.size:=by rw[hwA];simp
 obtain⟨wN,hwN⟩:∃wN,wN=wA.alloc (.cells #[.pointer (some ⟨p,0,none⟩),.pointer (some ⟨st,0,none⟩),.pointer (some ⟨w.heap.size,0,none⟩),.slice none 0 0,.slice none 0 0,.slice none 0 0,.int .i64 0] 58):=⟨_,rfl⟩
 rw[<- hwN]
 have bN:Below wA.heap.size wA wN:=by rw[hwN];exact (Below.refl _ _).alloc (Nat.le_refl _) _
 have hob:wN.heap[wA.heap.size]?=some (.cells #[.pointer (some ⟨p,0,none⟩),.pointer (some ⟨st,0,none⟩),.pointer (some ⟨w.heap.size,0,none⟩),.slice none 0 0,.slice none 0 0,.slice none 0 0,.int .i64 0] 58 (0,0)):=by rw[hwN];exact alloc_new rfl _
 have zN:wN.heap.size=wA.heap.size+1:=by rw[hwN];simp
 have b08:Below w.heap.size w wN:=by
  have:But (fun k=>k=w.heap.size) w wN:=((But.of_below b8).trans bA).trans (But.of_below bN)
  exact this.below (Nat.le_refl _) (fun k hk e=>by omega)
 have keepN:∀k,k<w8.heap.size->k≠w.heap.size->wN.heap[k]?=w8.heap[k]?:=fun k hk hne=>(bN.block k (by omega)).trans (bA.block k hk hne)
 have RN:=h1.R.keep (w':=wN) (fun k hk=>b08.block k (h1.R.lt hk))
 have hnewr:∀k,Rnset r k->k≠w.heap.size:=fun k hk e=>by have:=h1.R.lt hk;omega
 obtain⟨v,hv⟩:∃v:Dv,v=⟨p,st,j,c,nb,fr,bl,K1,d,s,none,⟨w.heap.size,lv,.slice da kk kk,(kk:Int),r.Fs,r.Ds.take kk,r.rs.take kk,none,false⟩,.slice none 0 0,.slice none 0 0,.slice none 0 0,[]⟩:=⟨_,rfl⟩
 have hdak:∀k,(Value.slice da kk kk).ownBlock=some k->Rnset r k:=fun k e=>.inr (.inr (.inl (by
  rw[hdv]
  cases da with
  | none=>exact e
  | some a=>exact e)))
 have hD:∀k,Dset wA.heap.size v k->k=w.heap.size\/lv.ownBlock=some k\/k=wA.heap.size\/Rnset r k:=fun k hk=>by
  rw[hv]at hk
  rcases hk with hk | hk | hk | hk | ⟨x,hx,_⟩
  ·rcases hk with hk | hk | hk | ⟨x,hx,hk⟩ | ⟨q,hq,_⟩
   ·exact .inl hk
   ·exact .inr (.inl hk)
   ·exact .inr (.inr (.inr (hdak k hk)))
   ·exact .inr (.inr (.inr (.inr (.inr (.inr ⟨x,List.mem_of_mem_take hx,hk⟩)))))
   ·cases hq
  ·rcases hk with hk | hk
   ·exact .inr (.inr (.inl hk))
   ·cases hk
  ·cases hk
  ·cases hk
  ·cases hx
 have hle:kk<=r.Ds.length:=e1
 refine⟨Ball Y wA.heap.size v,Y,v,⟨⟨?_,?_,?_⟩,?_,?_,?_⟩,?_,fun _=>Iff.rfl,?_,?_,?_⟩
 ·rw[hv]
  exact h1.P.below b08
 ·rw[hv]
  intro x hx
  cases hx
 ·exact fun k e=>Nat.lt_of_lt_of_le (h1.yb k e) b08.size
 ·rw[hv]
  refine⟨⟨⟨0,hob⟩,.inl rfl⟩,⟨?_,?_,h1.R.fsl,?_,?_,fun i x ps k1 k2=>?_,(fun q h9=>by cases h9),fun q h9=>by cases h9⟩,⟨rfl,.inl ⟨rfl,rfl⟩⟩,⟨rfl,.inl ⟨rfl,rfl⟩⟩,fun x hx=>by cases hx⟩
  ·exact n3.keep (bN.block _ n3.lt)
  ·show wN.ownsRow 0 9 1 lv nb (r.Fs.map Value.string)
   rw[h1.fs]
   have:=owns_bs q2 (Nat.zero_le _)
   rw[List.map_replicate]
   exact owns_keep this (fun k e=>keepN k (hlvk k e).2 (by have:=(hlvk k e).1;omega))
  ·show rowD wN 60 (.slice da kk kk) (r.Ds.take kk).length (rowsD (r.rs.take kk) (r.Ds.take kk))
   rw[List.length_take,Nat.min_eq_left hle,rowsD_take]
   have hd:=RN.don
   rw[hdv]at hd
   obtain⟨v0,r1,r2⟩:=hd
   have hform:∃c0,v0=.slice da r.Ds.length c0:=by
    rcases r2 with r2 | ⟨g,c0,r2,r3⟩
    ·exact⟨dc,r2.symm⟩
    ·injection r3 with x1 _ _
     exact⟨c0,by rw[r2,x1]⟩
   obtain⟨c0,rfl⟩:=hform
   have ht:=owns_take r1 hle
   cases da with
   | none=>
    rcases ht.2 with ⟨t1,t2⟩ | ⟨g,cap,cur,t1,_⟩
    ·subst t2
     exact rowD.own ⟨ht.1,.inl ⟨rfl,rfl⟩⟩
    ·cases t1
   | some a=>
    rcases ht.2 with ⟨t1,t2⟩ | ⟨g,cap,cur,t1,_⟩
    ·cases t1
    ·injection t1 with x1 _ x3
     injection x1 with x1
     subst x1
     exact⟨_,ht,.inr ⟨g,c0,rfl,rfl⟩⟩
  ·show (r.rs.take kk).length=(r.Ds.take kk).length
   rw[List.length_take,List.length_take,h1.R.rsl]
  ·have k1':(r.rs.take kk)[i]?=some x:=k1
   have k2':(r.Ds.take kk)[i]?=some ps:=k2
   have hi:i<kk:=by
    have:=(List.getElem?_eq_some_iff.1 k2').1
    rw[List.length_take]at this
    omega
   rw[List.getElem?_take_of_lt hi]at k1' k2'
   exact RN.din i x ps k1' k2'
 ·intro k hk e
  rcases hD k hk with q | q | q | q
  ·have:=h1.yb k e;omega
  ·have:=(hlvk k q).1;have:=h1.yb k e;omega
  ·have:=h1.yb k e;omega
  ·exact h1.nR k q e
 ·rw[hv]
  intro x hx
  cases hx
 ·rw[hv]
  have hpu:=h1.on.puts h1.lo h1.fit h1.nbl
  refine⟨h1.on.on.symm,fun _=>⟨Ts.length,home,Ts,h1.on,Hc.next hle e2 e3,h1.tl⟩,(fun e=>by have e':d.off=true:=e;rw[h1.on.on]at e';cases e'),by simp only;omega,rfl,(fun q t h9=>by cases h9),Nat.le_trans hkb hK,⟨?_,fun ps hp=>hdb.2 ps (List.mem_of_mem_take hp)⟩,Nat.zero_le _,h1.lo,h1.fit,h1.nbl,rfl,h1.fs⟩
  show (r.Ds.take kk).length+134217728<=M
  rw[List.length_take]
  omega
 ·rw[hv]
  exact h1.on.on
 ·intro k e4 e5
  have hk:=hQ k e4
  have:=h1.bt.size
  obtain⟨x1,x2⟩:=h1.qa k e4
  rcases e5 with q | q | ⟨x,hx,_⟩
  ·exact x1 q
  ·rcases hD k q with q | q | q | q
   ·omega
   ·have:=(hlvk k q).1;omega
   ·omega
   ·exact x2 q
  ·rw[hv]at hx
   cases hx
 ·exact h1.bt.trans (But.of_below b08)
end Go.Proofs.YthfojpcibnfmgaaGreat
