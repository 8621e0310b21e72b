import Derived.Test.YthfojpcibnfmgaaGreatV40
set_option maxRecDepth 100000
set_option maxHeartbeats 16000000
namespace Go.Proofs.YthfojpcibnfmgaaGreat
variable {bv d1 d2 d3 d4 d5 rv rw_ tv u:Value}
variable {W w w':World}
variable {L M t:Nat}
variable {Nn kd tx wh:Int}
variable {B X Y:Nat->Prop}
variable {who:Option Bool}
open Go.RowKit Go.Deep
variable {Gm:Nat×Nat×Nat}
theorem info81:(Tryz.prog.info? 81).map (fun i=>(i.zero,i.size,i.bytes))=some (some (.pointer none),1,8):=by kernel_rfl
theorem info65:(Tryz.prog.info? 65).map (fun i=>(i.zero,i.size,i.bytes))=some (some (.pointer none),1,8):=by kernel_rfl
theorem Lnd.set3(h:Lnd (d1,d2,d3,d4,d5) w L bv Nn)(u:Value):Lnd (d1,d2,d3,u,d5) (w.setCell ⟨L,3,none⟩ u) L bv Nn:=by
 unfold Lnd at h ⊢
 simp only[World.setCell,Array.getElem?_modify]
 rw[h]
 simp
theorem Lnd.set4(h:Lnd (d1,d2,d3,d4,d5) w L bv Nn)(u:Value):Lnd (d1,d2,d3,d4,u) (w.setCell ⟨L,4,none⟩ u) L bv Nn:=by
 unfold Lnd at h ⊢
 simp only[World.setCell,Array.getElem?_modify]
 rw[h]
 simp
theorem Lnd.c(h:Lnd (d1,d2,d3,d4,d5) w L bv Nn):w.cell? ⟨L,3,none⟩=some d4/\w.cell? ⟨L,4,none⟩=some d5:=by
 unfold Lnd at h
 simp[World.cell?,h]
theorem Dq.push{ob:Nat}{v:Dv}(h:Dq Y w ob v){g:Nat}{tsv' rsv':Value}(ho:∃q,v.o=some q/\t=q.t)(hq:∃T,v.r.q=some T/\g=T.g)(hb:But (fun k=>k=ob\/v.tsv.ownBlock=some k\/v.rsv.ownBlock=some k) w w')(hts:w'.ownsRow 0 81 1 tsv' (v.xs.length+1) ((v.xs.map fun x=>ptrV x.1)++[ptrV t]))(hrs:w'.ownsRow 0 65 1 rsv' (v.xs.length+1) ((v.xs.map fun x=>ptrV x.2)++[ptrV g]))(hln:∃Nn,Lnd (ptrV v.p,ptrV v.st,ptrV v.r.rb,tsv',rsv') w' ob v.bv Nn)(g1:∀k,tsv'.ownBlock=some k->v.tsv.ownBlock=some k\/w.heap.size<=k)(g2:∀k,rsv'.ownBlock=some k->v.rsv.ownBlock=some k\/w.heap.size<=k):Dq Y w' ob { v with tsv:=tsv',rsv:=rsv',xs:=v.xs++[(t,g)] }/\∀k,Dset ob { v with tsv:=tsv',rsv:=rsv',xs:=v.xs++[(t,g)] } k->Dset ob v k\/w.heap.size<=k:=by
 obtain⟨q,hoq,rfl⟩:=ho
 obtain⟨T,hqT,rfl⟩:=hq
 have hD:∀k,Dset ob { v with tsv:=tsv',rsv:=rsv',xs:=v.xs++[(q.t,T.g)] } k->Dset ob v k\/w.heap.size<=k:=fun k hk=>by
  rcases hk with hk | hk | hk | hk | ⟨x,hx,rfl⟩
  ·exact .inl (.inl hk)
  ·exact .inl (.inr (.inl hk))
  ·exact (g1 k hk).imp (fun e=>.inr (.inr (.inl e))) id
  ·exact (g2 k hk).imp (fun e=>.inr (.inr (.inr (.inl e)))) id
  ·rcases List.mem_append.1 hx with hx | hx
   ·exact .inl (.inr (.inr (.inr (.inr ⟨x,hx,rfl⟩))))
   ·obtain rfl:x=(q.t,T.g):=by simpa using hx
    exact .inl (.inl (.inr (.inr (.inr (.inr ⟨T,hqT,.inl rfl⟩)))))
 have hXk:∀k,(k=ob\/v.tsv.ownBlock=some k\/v.rsv.ownBlock=some k)->∃cur e,w.heap[k]?=some (Obj.cells cur e (0,0))/\(e=58\/e=81\/e=65):=fun k hk=>by
  obtain⟨⟨Nn,h1⟩,h2⟩:=h.R.ls
  rcases hk with rfl | hk | hk
  ·exact⟨_,_,h1,.inl rfl⟩
  ·obtain⟨cur,hc⟩:=rowKind h.R.ts hk
   exact⟨cur,_,hc,.inr (.inl rfl)⟩
  ·obtain⟨cur,hc⟩:=rowKind h.R.rs hk
   exact⟨cur,_,hc,.inr (.inr rfl)⟩
 have hne:∀(k:Nat) (cur:Array Value) (e:TypeId),w.heap[k]?=some (Obj.cells cur e (0,0))->e≠58->e≠81->e≠65->¬(k=ob\/v.tsv.ownBlock=some k\/v.rsv.ownBlock=some k):=fun k cur e hc n1 n2 n3 hk=>by
  obtain⟨cur2,e2,hc2,he⟩:=hXk k hk
  rw[hc]at hc2
  injection hc2 with hc2
  injection hc2 with _ hc2
  subst hc2
  exact he.elim n1 (fun e=>e.elim n2 n3)
 have hXD:∀k,(k=ob\/v.tsv.ownBlock=some k\/v.rsv.ownBlock=some k)->Dset ob v k:=fun k e=>by
  rcases e with rfl | e | e
  ·exact .inr (.inl (.inl rfl))
  ·exact .inr (.inr (.inl e))
  ·exact .inr (.inr (.inr (.inl e)))
 have hP:=h.P.keep hb (fun k _ e1 e2=>h.ny k (hXD k e1) e2) (fun k e _=>by
  obtain⟨cur,e9,hc,he⟩:=hXk k e
  exact⟨cur,e9,hc,by rcases he with rfl | rfl | rfl <;> decide⟩)
 refine⟨⟨⟨hP.pg,fun x hx=>?_,hP.yb⟩,⟨?_,?_,?_,?_,fun x hx=>?_⟩,fun k hk e=>?_,fun x hx=>?_⟩,hD⟩
 ·rcases List.mem_append.1 hx with hx | hx
  ·exact hP.all x hx
  ·obtain rfl:x=(q.t,T.g):=by simpa using hx
   exact .inl ⟨q,hoq,rfl⟩
 ·obtain⟨_,h2⟩:=h.R.ls
  refine⟨hln,h2.imp id ?_⟩
  rintro ⟨G,Mb,ys,e1,e2,e3,e4,e5⟩
  exact⟨G,Mb,ys,e1,e2,e3.but hb (hne G _ _ e3 (by decide) (by decide) (by decide)),e4,e5⟩
 ·refine h.R.rf.but hb (fun k hk=>?_)
  obtain⟨cur,e,hc,he⟩:=h.R.rf.kinds hk
  exact hne k cur e hc (by rcases he with rfl | rfl | rfl | rfl | rfl | rfl <;> decide) (by rcases he with rfl | rfl | rfl | rfl | rfl | rfl <;> decide) (by rcases he with rfl | rfl | rfl | rfl | rfl | rfl <;> decide)
 ·show w'.ownsRow 0 81 1 tsv' (v.xs++[(q.t,T.g)]).length ((v.xs++[(q.t,T.g)]).map fun x=>ptrV x.1)
  rw[List.length_append,List.map_append]
  exact hts
 ·show w'.ownsRow 0 65 1 rsv' (v.xs++[(q.t,T.g)]).length ((v.xs++[(q.t,T.g)]).map fun x=>ptrV x.2)
  rw[List.length_append,List.map_append]
  exact hrs
 ·rcases List.mem_append.1 hx with hx | hx
  ·exact (h.R.all x hx).imp id (fun⟨pv,mv,q⟩=>⟨pv,mv,q.keep (hb.block x.2 q.lt (hne _ _ _ q (by decide) (by decide) (by decide)))⟩)
  ·obtain rfl:x=(q.t,T.g):=by simpa using hx
   exact .inl ⟨T,hqT,rfl⟩
 ·rcases hD k hk with e2 | e2
  ·exact h.ny k e2 e
  ·have:=h.P.yb k e
   omega
 ·rcases List.mem_append.1 hx with hx | hx
  ·exact h.lk x hx
  ·obtain rfl:x=(q.t,T.g):=by simpa using hx
   exact⟨fun _=>⟨T,hqT,rfl⟩,fun _=>⟨q,hoq,rfl⟩⟩
theorem Dq.begin41{ob:Nat}{v:Dv}(h:Dq Y w ob v)(hr:Rl Gm M v)(hB:∀k,B k ↔ Ball Y ob v k)(hM:M<=268435455):Calls Tryz.prog 41 #[.pointer (some ⟨ob,0,none⟩)] w fun e w'=>e=.returned (.bool true)/\DskS Gm B w w' ob (M+1):=by
 obtain⟨PO,hPO⟩:∃PO:Ending->World->Prop,PO=fun e w'=>e=.returned (.bool true)/\DskS Gm B w w' ob (M+1):=⟨_,rfl⟩
 rw[<- hPO]
 have hxb:=hr.xb
 have hkb:=hr.kb
 obtain⟨n,hn⟩:∃n,n=v.xs.length:=⟨_,rfl⟩
 have hc1:=h.R.cells.2.1
 have HL:Hid (Calls Tryz.prog 26 #[.pointer (some ⟨v.st,0,none⟩)] w fun e w1=>∃tv code,e=.returned (.tuple #[tv,.int .i64 code])/\w1.cell? ⟨ob,2,none⟩=some (.pointer (some ⟨v.r.rb,0,none⟩))/\Calls Tryz.prog 83 #[.pointer (some ⟨v.r.rb,0,none⟩)] w1 fun e' w2=>∃rv,e'=.returned (.tuple #[rv,.int .i64 code])/\(((code == 0)=false/\tv=.pointer none/\PO (.returned (.bool true)) w2)\/(code=0/\∃t g,tv=.pointer (some ⟨t,0,none⟩)/\rv=.pointer (some ⟨g,0,none⟩)/\w2.cell? ⟨ob,3,none⟩=some v.tsv/\w2.ownsRow 0 81 1 v.tsv n (v.xs.map fun x=>ptrV x.1)/\∀w3 g1 c1,w3.ownsRow 0 81 1 (.slice (some ⟨g1,0,none⟩) (n+1) c1) (n+1) ((v.xs.map fun x=>ptrV x.1)++[.pointer (some ⟨t,0,none⟩)])->(w2.alloc (.cells #[.pointer (some ⟨t,0,none⟩)] 81)).grownBy w3 v.tsv.ownBlock->(v.tsv.ownBlock=some g1\/g1=w2.heap.size+1)->w3.cell? ⟨ob,3,none⟩=some v.tsv/\w3.frozen? ⟨ob,3,none⟩=false/\∀w4,w4=w3.setCell ⟨ob,3,none⟩ (.slice (some ⟨g1,0,none⟩) (n+1) c1)->w4.cell? ⟨ob,4,none⟩=some v.rsv/\w4.ownsRow 0 65 1 v.rsv n (v.xs.map fun x=>ptrV x.2)/\∀w5 g2 c2,w5.ownsRow 0 65 1 (.slice (some ⟨g2,0,none⟩) (n+1) c2) (n+1) ((v.xs.map fun x=>ptrV x.2)++[.pointer (some ⟨g,0,none⟩)])->(w4.alloc (.cells #[.pointer (some ⟨g,0,none⟩)] 65)).grownBy w5 v.rsv.ownBlock->(v.rsv.ownBlock=some g2\/g2=w4.heap.size+1)->w5.cell? ⟨ob,4,none⟩=some v.rsv/\w5.frozen? ⟨ob,4,none⟩=false/\PO (.returned (.bool true)) (w5.setCell ⟨ob,4,none⟩ (.slice (some ⟨g2,0,none⟩) (n+1) c2))))):=by
  refine Calls.mono h.P.pg.begin ?_
  rintro e w1 ⟨tv,Y',o',rfl,q1,q2,q3,q4,q5,q6⟩
  obtain⟨hR1,hN1⟩:=h.prog q6 q5
  refine⟨tv,_,rfl,hR1.cells.2.2.1,?_⟩
  refine Calls.mono hR1.rf.begin ?_
  rintro e' w2 ⟨rv,rfl,r',s1,s2,s3,s4,s5⟩
  have hbg:bgC v.r.off v.r.q.isSome=bgC v.d.off v.o.isSome:=by rw[hr.off,hr.both]
  refine⟨rv,by rw[hbg],?_⟩
  by_cases hc:bgC v.d.off v.o.isSome=0
  ·obtain⟨ho,t,x,m,rfl,rfl,ht⟩:=q3 hc
   obtain⟨hq,rfl,rfl⟩:=s5 (hbg.trans hc)
   refine .inr ⟨hc,t,w1.heap.size,rfl,rfl,?_⟩
   have hs1:=q6.size
   obtain⟨D2,g2',c2'⟩:=h.both2 q6 q5 q4 q1 (fun q9 e9=>by rw[ho]at e9;cases e9) s2 s1 rfl s3 (fun t9 e9=>by rw[hq]at e9;cases e9) (fun y hy=>by
    have h1:=h.P.x1 hy
    have h2:=h.R.lt (k:=y.2) (.inr (.inr (.inr (.inr ⟨y,hy,rfl⟩))))
    constructor
    ·rintro ⟨q,e1,e2⟩
     cases e1
     simp only at e2
     omega
    ·rintro ⟨q,e1,e2⟩
     cases e1
     simp only at e2
     omega)
   have hcl:=D2.R.cells
   have hts2:w2.ownsRow 0 81 1 v.tsv n (v.xs.map fun x=>ptrV x.1):=by rw[hn];exact D2.R.ts
   have hrs2:w2.ownsRow 0 65 1 v.rsv n (v.xs.map fun x=>ptrV x.2):=by rw[hn];exact D2.R.rs
   obtain⟨⟨Nn,hL2⟩,_⟩:=id D2.R.ls
   have hob2:ob<w2.heap.size:=D2.R.ob
   have hobt:¬v.tsv.ownBlock=some ob:=fun e=>by
    obtain⟨cur,hcu⟩:=rowKind hts2 e
    exact kind_ne hcu hL2 (by decide) rfl
   have hobr:¬v.rsv.ownBlock=some ob:=fun e=>by
    obtain⟨cur,hcu⟩:=rowKind hrs2 e
    exact kind_ne hcu hL2 (by decide) rfl
   have htr:∀k,v.tsv.ownBlock=some k->¬v.rsv.ownBlock=some k:=fun k e1 e2=>by
    obtain⟨cur,hcu⟩:=rowKind hts2 e1
    obtain⟨cur2,hcu2⟩:=rowKind hrs2 e2
    exact kind_ne hcu hcu2 (by decide) rfl
   refine⟨hcl.2.2.2.1,hts2,fun w3 g1 c1 ho3 hg3 hl3=>?_⟩
   have bA:Below w2.heap.size w2 (w2.alloc (.cells #[.pointer (some ⟨t,0,none⟩)] 81)):=(Below.refl _ _).alloc (Nat.le_refl _) _
   have zA:(w2.alloc (.cells #[.pointer (some ⟨t,0,none⟩)] 81)).heap.size=w2.heap.size+1:=by simp
   have bg:But (fun k=>v.tsv.ownBlock=some k) (w2.alloc (.cells #[.pointer (some ⟨t,0,none⟩)] 81)) w3:=(But.refl _ _).of_grown hg3 (fun k e _=>e)
   have b23:But (fun k=>v.tsv.ownBlock=some k) w2 w3:=(But.of_below bA).trans bg
   have z3:=b23.size
   have hL3:Lnd (ptrV v.p,ptrV v.st,ptrV v.r.rb,v.tsv,v.rsv) w3 ob v.bv Nn:=hL2.but b23 hobt
   refine⟨hL3.c.1,hL3.frozen 3,fun w4 hw4=>?_⟩
   have hL4:Lnd (ptrV v.p,ptrV v.st,ptrV v.r.rb,(.slice (some ⟨g1,0,none⟩) (n+1) c1),v.rsv) w4 ob v.bv Nn:=by rw[hw4];exact hL3.set3 _
   have b34:But (fun k=>k=ob) w3 w4:=by rw[hw4];exact (But.refl (fun k=>k=ob) w3).setCell (p:=⟨ob,3,none⟩) rfl _
   have b24:But (fun k=>k=ob\/v.tsv.ownBlock=some k) w2 w4:=(b23.mono (fun k _ e=>.inr e)).comp b34 (fun k _ e=>.inl e)
   have z4:=b34.size
   have hrs4:w4.ownsRow 0 65 1 v.rsv n (v.xs.map fun x=>ptrV x.2):=owns_keep hrs2 (fun k e=>b24.block k (World.ownsRow.lt hrs2 k e).2 (fun e2=>e2.elim (fun q=>hobr (q ▸ e)) (fun q=>htr k q e)))
   refine⟨hL4.c.2,hrs4,fun w5 g2 c2 ho5 hg5 hl5=>?_⟩
   have bB:Below w4.heap.size w4 (w4.alloc (.cells #[.pointer (some ⟨w1.heap.size,0,none⟩)] 65)):=(Below.refl _ _).alloc (Nat.le_refl _) _
   have zB:(w4.alloc (.cells #[.pointer (some ⟨w1.heap.size,0,none⟩)] 65)).heap.size=w4.heap.size+1:=by simp
   have bg5:But (fun k=>v.rsv.ownBlock=some k) (w4.alloc (.cells #[.pointer (some ⟨w1.heap.size,0,none⟩)] 65)) w5:=(But.refl _ _).of_grown hg5 (fun k e _=>e)
   have b45:But (fun k=>v.rsv.ownBlock=some k) w4 w5:=(But.of_below bB).trans bg5
   have z5:=b45.size
   have hL5:Lnd (ptrV v.p,ptrV v.st,ptrV v.r.rb,(.slice (some ⟨g1,0,none⟩) (n+1) c1),v.rsv) w5 ob v.bv Nn:=hL4.but b45 hobr
   refine⟨hL5.c.2,hL5.frozen 4,?_⟩
   have b56:But (fun k=>k=ob) w5 (w5.setCell ⟨ob,4,none⟩ (.slice (some ⟨g2,0,none⟩) (n+1) c2)):=(But.refl (fun k=>k=ob) w5).setCell (p:=⟨ob,4,none⟩) rfl _
   have hg1o:g1≠ob:=by
    rcases hl3 with e | e
    ·exact fun q=>hobt (q ▸ e)
    ·omega
   have hg2o:g2≠ob:=by
    rcases hl5 with e | e
    ·exact fun q=>hobr (q ▸ e)
    ·omega
   have hg1l:=(World.ownsRow.lt ho3 g1 rfl).2
   have hg1r:¬v.rsv.ownBlock=some g1:=fun e=>by
    obtain⟨cur,hcu⟩:=rowKind ho3 (k:=g1) rfl
    rcases hl3 with q | q
    ·exact htr g1 q e
    ·have:=(World.ownsRow.lt hrs2 g1 e).2
     omega
   obtain⟨D6,g6⟩:=D2.push (w':=w5.setCell ⟨ob,4,none⟩ (.slice (some ⟨g2,0,none⟩) (n+1) c2)) (t:=t) (g:=w1.heap.size) (tsv':=(.slice (some ⟨g1,0,none⟩) (n+1) c1)) (rsv':=(.slice (some ⟨g2,0,none⟩) (n+1) c2)) ⟨_,rfl,rfl⟩ ⟨_,rfl,rfl⟩ (((b24.mono (fun k _ e=>e.imp id .inl)).comp b45 (fun k _ e=>.inr (.inr e))).comp b56 (fun k _ e=>.inl e)) (by
     show World.ownsRow _ 0 81 1 (.slice (some ⟨g1,0,none⟩) (n+1) c1) (v.xs.length+1) _
     rw[<- hn]
     refine owns_keep ho3 (fun k e=>?_)
     have:g1=k:=by simpa [Value.ownBlock] using e
     subst this
     exact ((b56.block g1 (by omega) hg1o).trans (b45.block g1 (by omega) hg1r)).trans (b34.block g1 hg1l hg1o)) (by
     show World.ownsRow _ 0 65 1 (.slice (some ⟨g2,0,none⟩) (n+1) c2) (v.xs.length+1) _
     rw[<- hn]
     refine owns_keep ho5 (fun k e=>?_)
     have:g2=k:=by simpa [Value.ownBlock] using e
     subst this
     exact b56.block g2 (World.ownsRow.lt ho5 g2 rfl).2 hg2o) ⟨Nn,hL5.set4 _⟩ (fun k e=>by
     have:g1=k:=by simpa [Value.ownBlock] using e
     subst this
     exact hl3.imp id (fun q=>by omega)) (fun k e=>by
     have:g2=k:=by simpa [Value.ownBlock] using e
     subst this
     exact hl5.imp id (fun q=>by omega))
   rw[hPO]
   refine⟨rfl,?_⟩
   have s2s:=s2.size
   refine h.close hB D6 ?_ q5 (fun k hk=>?_) (fun x hx=>?_) ?_
   ·have R5:=hr.setOp (v:=v) (K':=v.K) (q:=⟨t,x,m,0,fun _=>none,[],[],fun _=>[]⟩) (t:=⟨w1.heap.size,.slice none 0 0,.slice none 0 0,[],[]⟩) (by omega) (Mq.nil v.nb v.fr v.bl) (by simp) (by simp) (by simp) (r':={ v.r with q:=some ⟨w1.heap.size,.slice none 0 0,.slice none 0 0,[],[]⟩ }) rfl rfl rfl rfl rfl
    refine⟨R5.off,R5.on,R5.ct,R5.pl,R5.both,R5.op,R5.kb,R5.db,?_,R5.lo,R5.fit,R5.nb,R5.gr,R5.fs⟩
    simp
    omega
   ·rcases g6 k hk with q | q
    ·exact g2' k q
    ·exact .inr (by omega)
   ·rcases List.mem_append.1 hx with hx | hx
    ·exact .inl hx
    ·obtain rfl:x=(t,w1.heap.size):=by simpa using hx
     exact .inr ht
   ·refine (((c2'.comp (b24.mono (fun k _ e=>(e:k=ob\/v.tsv.ownBlock=some k))) (fun k _ e=>?_)).comp b45 (fun k _ e=>?_)).comp b56 (fun k _ e=>?_))
    ·exact .inr (e.elim (fun q=>.inr (.inl (.inl q))) (fun q=>.inr (.inr (.inl q))))
    ·exact .inr (.inr (.inr (.inr (.inl e))))
    ·exact .inr (.inr (.inl (.inl e)))
  ·obtain⟨rfl,rfl⟩:=q2 hc
   obtain⟨rfl,_⟩:=s4 (fun e=>hc (hbg.symm.trans e))
   refine .inl ⟨by simp[hc],rfl,?_⟩
   rw[hPO]
   exact⟨rfl,h.both hB q6 q5 q4 q1 (fun q9 e9=>.inl ⟨q9,e9,rfl⟩) s2 s1 rfl s3 (fun t9 e9=>.inl ⟨t9,e9,rfl⟩) h.lk (hr.up (by omega))⟩
 have HZ:Hid (∀x (W:World),Calls Tryz.prog 39 #[.int .i64 x] W fun e w'=>e=.returned (.int .i64 x)/\w'=W):=fun x W=>num_any x W
 obtain⟨i1,hi1,hz1,hs1,hb1⟩:=info_parts info81
 obtain⟨i2,hi2,hz2,hs2,hb2⟩:=info_parts info65
 obtain⟨ss,hss⟩:∃ss,ss=v.st:=⟨_,rfl⟩
 obtain⟨rr,hrr⟩:∃rr,rr=v.r.rb:=⟨_,rfl⟩
 obtain⟨TS,hTS⟩:∃TS,TS=v.tsv:=⟨_,rfl⟩
 obtain⟨RS,hRS⟩:∃RS,RS=v.rsv:=⟨_,rfl⟩
 obtain⟨X1,hX1⟩:∃X1,X1=v.xs.map fun x=>ptrV x.1:=⟨_,rfl⟩
 obtain⟨X2,hX2⟩:∃X2,X2=v.xs.map fun x=>ptrV x.2:=⟨_,rfl⟩
 unfold ptrV at hc1
 rw[<- hss,<- hrr,<- hTS,<- hRS,<- hX1,<- hX2]at HL
 rw[<- hss]at hc1
 have hnb:n<=268435455:=by omega
 clear h hr hB hPO hss hrr hTS hRS hX1 hX2 hn hxb hkb hM
 go_enter Tryz.func41,Tryz.ntmps41
 go_wp2_with fail
 refine Calls.mono HL.out ?_
 rintro e w1 ⟨tv,code,rfl,d2,q⟩
 have H2:=hid q
 clear q HL hc1
 go_wp2_with fail
 refine Calls.mono H2.out ?_
 rintro e w2 ⟨rv,rfl,q⟩
 clear H2 d2
 rcases q with ⟨hc,rfl,q⟩ | ⟨rfl,t,g,rfl,rfl,d3,hrow,q⟩
 ·have FIN:=hid q
  clear q
  go_wp2_with fail
  refine Calls.mono (HZ.out _ _) ?_
  rintro e w5 ⟨rfl,hw5⟩
  rw[hw5]
  clear hw5
  go_wp2_with fail
  exact FIN.out
 ·have HQ:=hid q
  have HR1:Hid ((w2.alloc (.cells #[.pointer (some ⟨t,0,none⟩)] 81)).ownsRow 0 81 1 TS n X1):=owns_below hrow ((Below.refl _ _).alloc (Nat.le_refl _) _)
  clear q hrow
  go_wp2_with (at_builtin;refine wpList_append_lies _ rfl _ _ _ rfl 0 81 i1 (.pointer none) 1 8 Tryz.underlying53 hi1 hz1 hs1 hb1 rfl (by decide) _ n _ rfl (by exact HR1.out) ⟨w2.heap.size,0,none⟩ 1 1 [.pointer (some ⟨t,0,none⟩)] rfl rfl (by exact news1R w2 _ _) (by intro u hu;simp at hu;subst hu;rfl) (by decide) (by unfold maxLen;omega) (by omega) (by simp) (w2.heap.size+1) (by simp) ?_)
  intro g1 c1 w3 ho3 hg3 hl3 _
  obtain⟨k3,f3,q⟩:=HQ.out w3 g1 c1 ho3 hg3 hl3
  obtain⟨w4,hw4⟩:∃w4,w4=w3.setCell ⟨ob,3,none⟩ (.slice (some ⟨g1,0,none⟩) (n+1) c1):=⟨_,rfl⟩
  obtain⟨k4,hrow,q⟩:=q w4 hw4
  rw[hw4]at k4 hrow q
  have HQ2:=hid q
  have HR2:Hid (((w3.setCell ⟨ob,3,none⟩ (.slice (some ⟨g1,0,none⟩) (n+1) c1)).alloc (.cells #[.pointer (some ⟨g,0,none⟩)] 65)).ownsRow 0 65 1 RS n X2):=owns_below hrow ((Below.refl _ _).alloc (Nat.le_refl _) _)
  have HSZ:=hid (show (w3.setCell ⟨ob,3,none⟩ (.slice (some ⟨g1,0,none⟩) (n+1) c1)).heap.size=w3.heap.size by simp[World.setCell])
  have HNW:Hid (∀(j:Nat) (y:Value),[Value.pointer (some ⟨g,0,none⟩)][j]?=some y->((w3.setCell ⟨ob,3,none⟩ (.slice (some ⟨g1,0,none⟩) (n+1) c1)).alloc (.cells #[.pointer (some ⟨g,0,none⟩)] 65)).cell? ((⟨w3.heap.size,0,none⟩:Addr).add j)=some y):=fun j y hy=>by
   have:=news1R (w3.setCell ⟨ob,3,none⟩ (.slice (some ⟨g1,0,none⟩) (n+1) c1)) (.pointer (some ⟨g,0,none⟩)) 65 j y hy
   rw[HSZ.out]at this
   exact this
  clear q hrow ho3 hg3 hl3 HQ hw4 HR1 d3
  go_wp2_with (at_builtin;refine wpList_append_lies _ rfl _ _ _ rfl 0 65 i2 (.pointer none) 1 8 Tryz.underlying54 hi2 hz2 hs2 hb2 rfl (by decide) _ n _ rfl (by exact HR2.out) ⟨w3.heap.size,0,none⟩ 1 1 [.pointer (some ⟨g,0,none⟩)] rfl rfl (by exact HNW.out) (by intro u hu;simp at hu;subst hu;rfl) (by decide) (by unfold maxLen;omega) (by omega) (by simp) (w3.heap.size+1) (by simp[World.setCell]) ?_)
  intro g2 c2 w5 ho5 hg5 hl5 _
  obtain⟨k5,f5,q⟩:=HQ2.out w5 g2 c2 ho5 hg5 (hl5.imp id (fun e=>by rw[HSZ.out];exact e))
  have FIN:=hid q
  clear q ho5 hg5 hl5 HQ2 HR2 k3 k4 HSZ HNW
  go_wp2_with fail
  refine Calls.mono (HZ.out _ _) ?_
  rintro e w6 ⟨rfl,hw6⟩
  rw[hw6]
  clear hw6
  go_wp2_with fail
  exact FIN.out
open Go.RowKit Go.Deep
variable {Gm:Nat×Nat×Nat}
theorem Dq.ownsBoth{ob:Nat}{v:Dv}(h:Dq Y w ob v)(hr:Rl Gm M v)(hp:Pkd w v tv rv who) :
  Calls Tryz.prog 31 #[ptrV v.st,tv] w fun e w1=>∃code,e=.returned (.int .i64 code)/\DqR w1 ob v/\Below w.heap.size w w1/\Calls Tryz.prog 44 #[ptrV v.r.rb,rv] w1 fun e' w2=>e'=.returned (.int .i64 code)/\w2=w1:=by
 refine Calls.mono (h.P.pg.owns hp.1) ?_
 rintro e w1 ⟨rfl,b⟩
 have hR1:=h.R.keep (X:=fun _=>False) (But.of_below b) (fun _ _ q=>q)
 refine⟨_,rfl,hR1,b,?_⟩
 rw[<- hr.off]
 exact hR1.rf.owns (hp.ref h ((But.of_below b).mono (X:=fun _=>False) (fun _ _ q=>q.elim)))
theorem Rl.mono{M':Nat}{v:Dv}(h:Rl Gm M v)(hM:M<=M'):Rl Gm M' v where
 off:=h.off
 on:=fun e=>by
  obtain⟨q1,home,Ts,q2,q3,q4⟩:=h.on e
  exact⟨q1,home,Ts,q2,q3,by omega⟩
 ct:=fun e=>by
  obtain⟨q1,home,Ts,q2,q3,q4⟩:=h.ct e
  exact⟨q1,home,Ts,q2,q3,by omega⟩
 pl:=h.pl
 both:=h.both
 op:=fun q t e1 e2=>by
  obtain⟨q1,q2,q3,q4⟩:=h.op q t e1 e2
  exact⟨q1,by omega,by omega,by omega⟩
 kb:=by have:=h.kb;omega
 db:=⟨by have:=h.db.1;omega,fun ps hps=>by have:=h.db.2 ps hps;omega⟩
 xb:=by have:=h.xb;omega
 lo:=h.lo
 fit:=h.fit
 nb:=h.nb
 gr:=h.gr
 fs:=h.fs
theorem Dq.low{ob:Nat}{v:Dv}(h:Dq Y w ob v)(b:Below w.heap.size w w'):Dq Y w' ob v:=⟨⟨h.P.pg.below b,fun x hx=>(h.P.all x hx).imp id (fun⟨t1,t2⟩=>⟨t1.keep (b.block x.1 t1.lt),t2⟩),fun k e=>Nat.lt_of_lt_of_le (h.P.yb k e) b.size⟩,h.R.keep (X:=fun _=>False) (But.of_below b) (fun _ _ q=>q),h.ny,h.lk⟩
theorem DskV.low{ob:Nat}(b:Below w.heap.size w W)(h:DskV Gm B W w' ob M u):DskV Gm B w w' ob M u:=by
 obtain⟨B',zs,h1,h2,h3,h4⟩:=h
 have hs:=b.size
 exact⟨B',zs,h1,fun k hk e=>h2 k (by omega) e,(But.of_below b).trans h3,h4.imp id (fun⟨g,cp,e1,e2,e3⟩=>⟨g,cp,e1,by omega,e3⟩)⟩
def Bx (w:World) (A:Nat) (wh kd tx at_ fl:Int) (rw_:Value):Prop:=w.heap[A]?=some (.cells #[.int .i64 wh,.int .i64 kd,.int .i64 tx,.int .i64 at_,.int .i64 fl,rw_] 42 (0,0))
theorem Bx.cell{A:Nat}{at_ fl:Int}(h:Bx w A wh kd tx at_ fl rw_)(i:Nat):w.cell? ⟨A,i,none⟩=#[.int .i64 wh,.int .i64 kd,.int .i64 tx,.int .i64 at_,.int .i64 fl,rw_][i]?:=by
 unfold Bx at h
 simp[World.cell?,h]
theorem Bx.but{A:Nat}{at_ fl:Int}(h:Bx w A wh kd tx at_ fl rw_)(hb:But X w w')(hx:¬X A):Bx w' A wh kd tx at_ fl rw_:=(hb.block A (Array.getElem?_eq_some_iff.1 h).1 hx).trans h
theorem Bx.low{A:Nat}{at_ fl:Int}(h:Bx w A wh kd tx at_ fl rw_)(hb:Below w.heap.size w w'):Bx w' A wh kd tx at_ fl rw_:=(hb.block A (Array.getElem?_eq_some_iff.1 h).1).trans h
end Go.Proofs.YthfojpcibnfmgaaGreat
