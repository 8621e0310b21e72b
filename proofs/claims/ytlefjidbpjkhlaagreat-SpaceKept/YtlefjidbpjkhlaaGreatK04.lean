import Derived.Test.YtlefjidbpjkhlaaGreatK03
set_option maxRecDepth 100000
set_option maxHeartbeats 16000000
namespace Go.Proofs.YtlefjidbpjkhlaaGreat
variable {w w' w1 w2 w3:World}
variable {c e m mp n p r x:Nat}
variable {X Y:Nat->Prop}
variable {hi mi:Int}
variable {es:List Nat}
variable {zs:List Int}
variable {f':Nat->En}
variable {v2 v3:Value}
open Go.RowKit Go.ChangeMaps
theorem ownsMap_tight{D:DataW Nat}(h:w.ownsMap Tryz.prog 3 ptrElem mp n D):w.ownsMap Tryz.prog 3 ptrElem mp (Maps.size D) D:=by
 obtain⟨es,ck,h1,h2,h3,rfl⟩:=h
 exact⟨es,ck,h1,h2,by simp[Maps.size,length_sorted],rfl⟩
theorem Ca.tight{room:Nat}{f:Nat->En}{Z:Nat->List Int}(h:Ca X w c p room r mp n hi mi es f Z):Ca X w c p room r mp es.length hi mi es f Z:=by
 obtain⟨D,hm,hD⟩:=h.map
 refine⟨h.blk,h.ens,h.ring,⟨D,?_,hD⟩,h.dat,h.xc,h.xm,h.xe⟩
 rw[<- hD.size]
 exact ownsMap_tight hm
theorem Ca.mono{room:Nat}{f:Nat->En}{Z:Nat->List Int}(h:Ca X w c p room r mp n hi mi es f Z)(hX:∀k,k<w.heap.size->X k->Y k):Ca Y w c p room r mp n hi mi es f Z:=by
 obtain⟨D,hm,hD⟩:=h.map
 exact⟨h.blk,h.ens,h.ring,h.map,fun e he=>by
  obtain⟨g,cap,q1,q2,q3,q4⟩:=h.dat e he
  exact⟨g,cap,q1,q2,q3,hX g q2.lt q4⟩,hX c h.blk.lt h.xc,hX mp (ownsMap_lt hm) h.xm,fun x hx=>hX x (h.ens x hx).lt (h.xe x hx)⟩
theorem Own.ne_ent{g cap:Nat}(ho:Own w g n cap zs){e:En}(hx:EnB w x e):g≠x:=fun q=>by
 obtain⟨cur,hk⟩:=ho.kind
 unfold EnB at hx
 rw[<- q,hk]at hx
 cases hx
theorem Own.ne_map{g cap:Nat}{D:DataW Nat}(ho:Own w g n cap zs)(hm:w.ownsMap Tryz.prog 3 ptrElem mp m D):g≠mp:=fun q=>by
 obtain⟨cur,hk⟩:=ho.kind
 obtain⟨es,ck,h1,_⟩:=hm
 rw[<- q,hk]at h1
 cases h1
theorem letGo_first{room:Nat}{B:List Nat}{f:Nat->En}{Z:Nat->List Int}(h:Ca X w c p room r mp n hi mi (e :: B) f Z)(hat:(Lit.int .i64 (f e).at_).wf=true) :
  Calls Tryz.prog 236 #[.pointer (some ⟨c,0,none⟩),.pointer (some ⟨e,0,none⟩)] w fun q w'=>q=.returned (.tuple #[])/\Ca X w' c p room r mp n hi mi B (unl f e) Z/\But X w w'/\∀g n cap zs,Own w g n cap zs->Own w' g n cap zs:=by
 obtain⟨D,hm,hD⟩:=h.map
 obtain⟨r2,m1,m2⟩:=Rg.unl (A:=[]) h.ring
 have hnd:=h.ring.1
 have hn:e ∉ B:=(List.nodup_cons.1 (List.nodup_cons.1 hnd).2).1
 have hb:(f e).bf∈r :: e :: B:=by rcases m1 with q | q;rw[q];simp;simp at q
 have ha:(f e).af∈r :: e :: B:=by rcases m2 with q | q;rw[q];simp;simp[q]
 refine Calls.mono (letGo_any h.blk h.ens (by simp) hb ha hm hD hn hat) ?_
 rintro q w' ⟨rfl,h1,⟨D',hm',hD'⟩,b1⟩
 have hVc:¬c∈r :: e :: B:=fun hv=>h.blk.ne_ent (h.ens c hv) rfl
 refine⟨rfl,⟨(b1.block c h.blk.lt (fun q=>?_)).trans h.blk,fun x hx=>h1 x ?_,r2,⟨D',hm',hD'⟩,fun y hy=>?_,h.xc,h.xm,fun x hx=>h.xe x ?_⟩,b1.mono (fun x _ hx=>?_),fun g n cap zs ho=>ho.keep (b1.block g ho.lt (fun q=>?_))⟩
 ·rcases q with q | q
  ·exact hVc q
  ·exact h.blk.ne_map hm q
 ·simp at hx ⊢
  rcases hx with q | q
  ·exact .inl q
  ·exact .inr (.inr q)
 ·obtain⟨g,cap,q1,q2,q3,q4⟩:=h.dat y (by simp[hy])
  refine⟨g,cap,by rw[(unl_same f e y).2];exact q1,q2.keep (b1.block g q2.lt (fun q=>?_)),q3,q4⟩
  rcases q with q | q
  ·exact q2.ne_ent (h.ens g q) rfl
  ·exact q2.ne_map hm q
 ·simp at hx ⊢
  rcases hx with q | q
  ·exact .inl q
  ·exact .inr (.inr q)
 ·rcases hx with q | q
  ·exact h.xe x q
  ·rw[q];exact h.xm
 ·rcases q with q | q
  ·exact ho.ne_ent (h.ens g q) rfl
  ·exact ho.ne_map hm q
def newE (f:Nat->En) (e:Nat) (x:Int) (v:Value) (z:Nat):En:=if z=e then ⟨x,v,e,e⟩ else f z
theorem newE_at(f:Nat->En)(e:Nat)(x:Int)(v:Value):newE f e x v e=⟨x,v,e,e⟩:=if_pos rfl
theorem newE_ne(f:Nat->En){z:Nat}(x:Int)(v:Value)(h:z≠e):newE f e x v z=f z:=if_neg h
theorem Ca.grow {room:Nat} {f:Nat->En} {Z:Nat->List Int} {D:DataW Nat} (h:Ca X w c p room r mp n hi mi es f Z) {x:Int} (hx:∀e∈es,(f e).at_≠x) {g cap:Nat} (hO:Own w g 512 cap zs) (hb:Pl.isB zs) (hX:X g)
  (hm:w.ownsMap Tryz.prog 3 ptrElem mp n D) (hD:BM D es f)
  (e1:EnB w1 w.heap.size ⟨x,.slice none 0 0,w.heap.size,w.heap.size⟩) (b1:Below w.heap.size w w1) (s1:w1.heap.size=w.heap.size+1)
  (m2:w2.ownsMap Tryz.prog 3 ptrElem mp (n+1) (D.put (.int .i64 x) (.held w.heap.size))) (t2:w1.mapTurned w2 mp) (h3:w3=w2.setCell ⟨w.heap.size,1,none⟩ (.slice (some ⟨g,0,none⟩) 512 cap)) :
  Ens w3 (fun y=>y∈r :: (es++[w.heap.size])) (newE f w.heap.size x (.slice (some ⟨g,0,none⟩) 512 cap))/\Cab w3 c p room r mp hi mi/\EnB w2 w.heap.size ⟨x,.slice none 0 0,w.heap.size,w.heap.size⟩/\Cab w2 c p room r mp hi mi/\(∀w4,Ens w4 (fun y=>y∈r :: (es++[w.heap.size])) (lnk (unl (newE f w.heap.size x (.slice (some ⟨g,0,none⟩) 512 cap)) w.heap.size) w.heap.size r)->But (fun y=>y∈r :: (es++[w.heap.size])) w3 w4->But X w w4/\Own w4 g 512 cap zs/\∃f' Z',Ca (fun k=>X k\/k=w.heap.size) w4 c p room r mp (n+1) hi mi (es++[w.heap.size]) f' Z'/\f'=lnk (newE f w.heap.size x (.slice (some ⟨g,0,none⟩) 512 cap)) w.heap.size r/\Z' w.heap.size=zs/\∀y,y≠w.heap.size->Z' y=Z y):=by
 have hml:=ownsMap_lt hm
 have b2:=turned_but t2
 have hcl:=h.blk.lt
 have ncm:c≠mp:=h.blk.ne_map hm
 have hVl:∀y,y∈r :: es->y<w.heap.size:=fun y hy=>(h.ens y hy).lt
 have hVm:∀y,y∈r :: es->y≠mp:=fun y hy=>ent_ne_map hm (h.ens y hy)
 have hVc:∀y,y∈r :: es->y≠c:=fun y hy=>h.blk.ne_ent (h.ens y hy)
 have nen:w.heap.size ∉ r :: es:=fun hy=>Nat.lt_irrefl _ (hVl _ hy)
 have k12:∀y,y<w.heap.size->y≠mp->w2.heap[y]?=w.heap[y]?:=fun y hy hn=>(b2.block y (by omega) hn).trans (b1.block y hy)
 have ke2:EnB w2 w.heap.size ⟨x,.slice none 0 0,w.heap.size,w.heap.size⟩:=(b2.block w.heap.size (by omega) (by omega)).trans e1
 have b23:But (fun y=>y=w.heap.size) w2 w3:=by rw[h3];exact (But.refl (fun y=>y=w.heap.size) w2).setCell (p:=⟨w.heap.size,1,none⟩) (show (fun y=>y=w.heap.size) w.heap.size from rfl) _
 have s2:=b2.size
 have k3:∀y,y<w.heap.size->y≠mp->w3.heap[y]?=w.heap[y]?:=fun y hy hn=>(b23.block y (by omega) (by omega)).trans (k12 y hy hn)
 have hc2:Cab w2 c p room r mp hi mi:=(k12 c hcl ncm).trans h.blk
 have hc3:Cab w3 c p room r mp hi mi:=(k3 c hcl ncm).trans h.blk
 have h3e:Ens w3 (fun y=>y∈r :: (es++[w.heap.size])) (newE f w.heap.size x (.slice (some ⟨g,0,none⟩) 512 cap)):=fun y hy=>by
  by_cases q:y=w.heap.size
  ·subst q
   rw[newE_at,h3]
   unfold EnB
   simpa using ke2.set 1 (.slice (some ⟨g,0,none⟩) 512 cap)
  ·have hy':y∈r :: es:=by simpa [q] using hy
   rw[newE_ne f _ _ q]
   exact (k3 y (hVl y hy') (hVm y hy')).trans (h.ens y hy')
 refine⟨h3e,hc3,ke2,hc2,fun w4 h4 b4=>?_⟩
 have hua:unl (newE f w.heap.size x (.slice (some ⟨g,0,none⟩) 512 cap)) w.heap.size=newE f w.heap.size x (.slice (some ⟨g,0,none⟩) 512 cap):=unl_alone (by rw[newE_at]) (by rw[newE_at])
 rw[hua]at h4
 have r3:Rg (newE f w.heap.size x (.slice (some ⟨g,0,none⟩) 512 cap)) r es:=h.ring.congr (fun y hy=>by
  have hyn:y≠w.heap.size:=fun q=>nen (by rw[<- q];exact hy)
  rw[newE_ne f _ _ hyn]
  exact⟨rfl,rfl⟩)
 have s3:=b23.size
 have k4:∀y,y<w.heap.size->y≠mp->y ∉ r :: es->w4.heap[y]?=w.heap[y]?:=fun y hy hn hv=>(b4.block y (by omega) (fun q=>by
  rcases List.mem_cons.1 q with q | q
  ·exact hv (by simp[q])
  ·rcases List.mem_append.1 q with q | q
   ·exact hv (by simp[q])
   ·simp at q;omega)).trans (k3 y hy hn)
 have m4:w4.ownsMap Tryz.prog 3 ptrElem mp (n+1) (D.put (.int .i64 x) (.held w.heap.size)):=ownsMap_keep m2 ((b4.block mp (by omega) (fun q=>by
  rcases List.mem_cons.1 q with q | q
  ·exact hVm r (by simp) q.symm
  ·rcases List.mem_append.1 q with q | q
   ·exact hVm mp (by simp[q]) rfl
   ·simp at q;omega)).trans (b23.block mp (by omega) (by omega)))
 have hat:∀y,(lnk (newE f w.heap.size x (.slice (some ⟨g,0,none⟩) 512 cap)) w.heap.size r y).at_=(newE f w.heap.size x (.slice (some ⟨g,0,none⟩) 512 cap) y).at_:=fun y=>(lnk_same _ _ _ _).1
 have hdv:∀y,(lnk (newE f w.heap.size x (.slice (some ⟨g,0,none⟩) 512 cap)) w.heap.size r y).dv=(newE f w.heap.size x (.slice (some ⟨g,0,none⟩) 512 cap) y).dv:=fun y=>(lnk_same _ _ _ _).2
 have t5:∀g' cap' zs',Own w g' 512 cap' zs'->Own w4 g' 512 cap' zs':=fun g' cap' zs' ho=>ho.keep (k4 g' ho.lt (ho.ne_map hm) (fun hv=>ho.ne_ent (h.ens g' hv) rfl))
 have hDn:BM D es (newE f w.heap.size x (.slice (some ⟨g,0,none⟩) 512 cap)):=hD.congr (fun _=>Iff.rfl) rfl (fun y hy=>by rw[newE_ne f _ _ (fun q=>nen (by simp[<- q,hy]))])
 have hDp:=hDn.put (e:=w.heap.size) (fun y hy=>by rw[newE_at,newE_ne f _ _ (fun q=>nen (by simp[<- q,hy]))];exact hx y hy)
 rw[newE_at]at hDp
 refine⟨⟨by rw[b4.os,b23.os,b2.os,b1.os],by rw[b4.tape,b23.tape,b2.tape,b1.tape],by rw[b4.output,b23.output,b2.output,b1.output],by have:=b4.size;omega,fun k hk hnx=>k4 k hk (fun q=>hnx (by rw[q];exact h.xm)) (fun q=>hnx (h.xe k q))⟩,t5 g cap zs hO,_,fun y=>if y=w.heap.size then zs else Z y,⟨?_,h4,r3.lnk nen,⟨_,m4,hDp.congr (fun _=>Iff.rfl) rfl (fun y _=>hat y)⟩,fun y hy=>?_,.inl h.xc,.inl h.xm,fun y hy=>?_⟩,rfl,if_pos rfl,fun y hy=>if_neg hy⟩
 ·exact (k4 c hcl ncm (fun q=>hVc c q rfl)).trans h.blk
 ·by_cases q:y=w.heap.size
  ·subst q
   exact⟨g,cap,by rw[hdv,newE_at],by simpa using t5 g cap zs hO,by simpa using hb,.inl hX⟩
  ·have hy':y∈es:=by simpa [q] using hy
   obtain⟨g',cap',q1,q2,q3,q4⟩:=h.dat y hy'
   exact⟨g',cap',by rw[hdv,newE_ne f _ _ q];exact q1,by simpa [q] using t5 g' cap' _ q2,by simpa [q] using q3,.inl q4⟩
 ·by_cases q:y=w.heap.size
  ·exact .inr q
  ·exact .inl (h.xe y (by simpa [q] using hy))
open Go.RowKit Go.ChangeMaps
theorem hold_fits{room:Nat}{f:Nat->En}{Z:Nat->List Int}(h:Ca X w c p room r mp n hi mi es f Z)(hrm:es.length<room)(hln:n<maxLen){x:Int}(hx:∀e∈es,(f e).at_≠x){g cap:Nat}(hO:Own w g 512 cap zs)(hb:Pl.isB zs)(hX:X g)(hat:(Lit.int .i64 x).wf=true) :
  Calls Tryz.prog 218 #[.pointer (some ⟨c,0,none⟩),.int .i64 x,.slice (some ⟨g,0,none⟩) 512 cap] w fun q w'=>q=.returned (.tuple #[])/\(∃f' Z',Ca (fun k=>X k\/k=w.heap.size) w' c p room r mp (n+1) hi mi (es++[w.heap.size]) f' Z'/\(f' w.heap.size).at_=x/\(∀y,y≠w.heap.size->(f' y).at_=(f y).at_)/\Z' w.heap.size=zs/\∀y,y≠w.heap.size->Z' y=Z y)/\But X w w'/\Own w' g 512 cap zs:=by
 obtain⟨D,hm,hD⟩:=h.map
 have hkey:keyOf Tryz.prog 3 (.int .i64 x)=some (.int .i64 x):=Maps.keyOf_int_mk Tryz.underlying3 hat
 have hhas:=hD.miss x hx
 obtain⟨x0,x1,x2,x3,x4,x5⟩:=h.blk.cells
 have hcl:=h.blk.lt
 have hml:=ownsMap_lt hm
 have hsz:=hD.size
 have hrb:(f r).bf∈r :: es:=h.ring.bfr
 have nen:w.heap.size ∉ r :: es:=fun hy=>Nat.lt_irrefl _ (h.ens _ hy).lt
 have H:=hid (And.intro h (And.intro hm (And.intro hD (And.intro hO hb))))
 have HA:=hid (alone_any x w)
 clear h hD hO hb
 go_enter Tryz.func218,Tryz.ntmps218
 go_wp2_with (at_lookup;refine wpList_lookup_own_ok _ rfl _ _ 186 rfl 3 185 law3 Tryz.underlying186 ptrElem (zero45 _) .nil [] rfl mp n D rfl hm _ _ rfl hkey ?_;intro v ps hv;clear hv;rw[hhas])
 refine Calls.mono HA.out ?_
 rintro q w1 ⟨rfl,e1,b1,s1⟩
 have hm1:=ownsMap_keep hm (b1.block mp hml)
 have d3:w1.cell? ⟨c,3,none⟩=some (.map (some mp)):=(World.cell?_of_block (w:=w) (b1.block c hcl)).trans x3
 obtain⟨w2,hrun,m2,t2⟩:=World.ownsMap.store (w:=w1) hm1 law3 Tryz.underlying186 hln hkey (val:=.pointer (some ⟨w.heap.size,0,none⟩)) (d:=.held w.heap.size) (ps:=[]) rfl
 obtain⟨w3,hw3⟩:∃w3,w3=w2.setCell ⟨w.heap.size,1,none⟩ (.slice (some ⟨g,0,none⟩) 512 cap):=⟨_,rfl⟩
 obtain⟨g1,g2,g3,g4,g5⟩:=H.out.1.grow hx H.out.2.2.2.1 H.out.2.2.2.2 hX hm H.out.2.2.1 e1 b1 s1 m2 t2 hw3
 have y1:=g3.cells.2.1
 have y1f:=g3.frozen 1
 obtain⟨u0,u1,u2,u3,u4,u5⟩:=g4.cells
 have hua:unl (newE f w.heap.size x (.slice (some ⟨g,0,none⟩) 512 cap)) w.heap.size=newE f w.heap.size x (.slice (some ⟨g,0,none⟩) 512 cap):=unl_alone (by rw[newE_at]) (by rw[newE_at])
 have hrn:r≠w.heap.size:=fun q=>nen (by rw[<- q];simp)
 have HML:=hid (makeLatest_any g1 (c:=c) g2.cells.2.2.1 (fun hv=>g2.ne_ent (g1 c hv) rfl) g2.lt (e:=w.heap.size) (by simp) (by rw[newE_at];simp) (by rw[newE_at];simp) (by simp) (by
  rw[hua,newE_ne f _ _ hrn]
  rcases List.mem_cons.1 hrb with q | q
  ·rw[q];simp
  ·exact List.mem_cons_of_mem _ (List.mem_append_left _ q)))
 have G:=hid g5
 clear g5 g1 g2 g3 g4 m2 t2 e1 b1 hua hrb hsz hx hm hhas HA hm1
 generalize hE:w.heap.size=E at *
 go_wp2_with fail
 rw[<- hw3]
 refine Calls.mono HML.out ?_
 rintro q w4 ⟨rfl,h4,b4⟩
 obtain⟨bx,ox,f',Z',ca,hf',z1,z2⟩:=G.out w4 h4 b4
 obtain⟨D4,hm4,hD4⟩:=ca.map
 obtain⟨y0,y1,y2,y3,y4,y5⟩:=ca.blk.cells
 have hsz:=hD4.size
 have hlen:=fun ty=>World.ownsMap.len hm4 Tryz.underlying186 ty
 have hlend:=fun ty=>World.ownsMap.len (ownsMap_keep (w':=w4.drew) hm4 rfl) Tryz.underlying186 ty
 rw[hsz]at hlen hlend
 have hat':∀y,(f' y).at_=(newE f E x (.slice (some ⟨g,0,none⟩) 512 cap) y).at_:=fun y=>by rw[hf'];exact (lnk_same _ _ _ _).1
 have hll:(es++[E]).length=es.length+1:=by simp
 rw[hll]at hlen hlend
 have hnr:¬((room:Int)<((es.length+1:Nat):Int)):=by omega
 generalize es.length+1=ln at *
 have FIN:Hid ((∃f' Z',Ca (fun k=>X k\/k=E) w4 c p room r mp (n+1) hi mi (es++[E]) f' Z'/\(f' E).at_=x/\(∀y,y≠E->(f' y).at_=(f y).at_)/\Z' E=zs/\∀y,y≠E->Z' y=Z y)/\But X w w4/\Own w4 g 512 cap zs):=⟨⟨f',Z',ca,by rw[hat',newE_at],fun y hy=>by rw[hat',newE_ne f _ _ hy],z1,z2⟩,bx,ox⟩
 clear HML h4 b4 ca hm4 hD4 G x0 x1 x2 x3 x4 x5 u0 u1 u2 u3 u4 u5 H
 go_wp2_with fail
 go_region
 all_goals go_wp2
 all_goals
  go_end0
  subst hE
  obtain⟨f',Z',q1,q2⟩:=FIN.out.1
  exact⟨rfl,⟨f',Z',q1.drew,q2⟩,FIN.out.2.1.drew,FIN.out.2.2⟩
theorem hold_full{room:Nat}{a:Nat}{f:Nat->En}{Z:Nat->List Int}(h:Ca X w c p room r mp n hi mi (a :: es) f Z)(hrm:(a :: es).length=room)(hwa:(Lit.int .i64 (f a).at_).wf=true)(hln:n<maxLen){x:Int}(hx:∀e∈(a :: es),(f e).at_≠x){g cap:Nat}(hO:Own w g 512 cap zs)(hb:Pl.isB zs)(hX:X g)(hat:(Lit.int .i64 x).wf=true) :
  Calls Tryz.prog 218 #[.pointer (some ⟨c,0,none⟩),.int .i64 x,.slice (some ⟨g,0,none⟩) 512 cap] w fun q w'=>q=.returned (.tuple #[])/\(∃f' Z',Ca (fun k=>X k\/k=w.heap.size) w' c p room r mp (n+1) hi mi (es++[w.heap.size]) f' Z'/\(f' w.heap.size).at_=x/\(∀y,y≠w.heap.size->(f' y).at_=(f y).at_)/\Z' w.heap.size=zs/\∀y,y≠w.heap.size->Z' y=Z y)/\But X w w'/\Own w' g 512 cap zs:=by
 obtain⟨D,hm,hD⟩:=h.map
 have hkey:keyOf Tryz.prog 3 (.int .i64 x)=some (.int .i64 x):=Maps.keyOf_int_mk Tryz.underlying3 hat
 have hhas:=hD.miss x hx
 obtain⟨x0,x1,x2,x3,x4,x5⟩:=h.blk.cells
 have hcl:=h.blk.lt
 have hml:=ownsMap_lt hm
 have hsz:=hD.size
 have hrb:(f r).bf∈r :: (a :: es):=h.ring.bfr
 have nen:w.heap.size ∉ r :: (a :: es):=fun hy=>Nat.lt_irrefl _ (h.ens _ hy).lt
 have H:=hid (And.intro h (And.intro hm (And.intro hD (And.intro hO hb))))
 have HA:=hid (alone_any x w)
 clear h hD hO hb
 go_enter Tryz.func218,Tryz.ntmps218
 go_wp2_with (at_lookup;refine wpList_lookup_own_ok _ rfl _ _ 186 rfl 3 185 law3 Tryz.underlying186 ptrElem (zero45 _) .nil [] rfl mp n D rfl hm _ _ rfl hkey ?_;intro v ps hv;clear hv;rw[hhas])
 refine Calls.mono HA.out ?_
 rintro q w1 ⟨rfl,e1,b1,s1⟩
 have hm1:=ownsMap_keep hm (b1.block mp hml)
 have d3:w1.cell? ⟨c,3,none⟩=some (.map (some mp)):=(World.cell?_of_block (w:=w) (b1.block c hcl)).trans x3
 obtain⟨w2,hrun,m2,t2⟩:=World.ownsMap.store (w:=w1) hm1 law3 Tryz.underlying186 hln hkey (val:=.pointer (some ⟨w.heap.size,0,none⟩)) (d:=.held w.heap.size) (ps:=[]) rfl
 obtain⟨w3,hw3⟩:∃w3,w3=w2.setCell ⟨w.heap.size,1,none⟩ (.slice (some ⟨g,0,none⟩) 512 cap):=⟨_,rfl⟩
 obtain⟨g1,g2,g3,g4,g5⟩:=H.out.1.grow hx H.out.2.2.2.1 H.out.2.2.2.2 hX hm H.out.2.2.1 e1 b1 s1 m2 t2 hw3
 have y1:=g3.cells.2.1
 have y1f:=g3.frozen 1
 obtain⟨u0,u1,u2,u3,u4,u5⟩:=g4.cells
 have hua:unl (newE f w.heap.size x (.slice (some ⟨g,0,none⟩) 512 cap)) w.heap.size=newE f w.heap.size x (.slice (some ⟨g,0,none⟩) 512 cap):=unl_alone (by rw[newE_at]) (by rw[newE_at])
 have hrn:r≠w.heap.size:=fun q=>nen (by rw[<- q];simp)
 have HML:=hid (makeLatest_any g1 (c:=c) g2.cells.2.2.1 (fun hv=>g2.ne_ent (g1 c hv) rfl) g2.lt (e:=w.heap.size) (by simp) (by rw[newE_at];simp) (by rw[newE_at];simp) (by simp) (by
  rw[hua,newE_ne f _ _ hrn]
  rcases List.mem_cons.1 hrb with q | q
  ·rw[q];simp
  ·exact List.mem_cons_of_mem _ (List.mem_append_left _ q)))
 have G:=hid g5
 clear g5 g1 g2 g3 g4 m2 t2 e1 b1 hua hrb hsz hx hm hhas HA hm1
 generalize hE:w.heap.size=E at *
 go_wp2_with fail
 rw[<- hw3]
 refine Calls.mono HML.out ?_
 rintro q w4 ⟨rfl,h4,b4⟩
 obtain⟨bx,ox,f',Z',ca,hf',z1,z2⟩:=G.out w4 h4 b4
 obtain⟨D4,hm4,hD4⟩:=ca.map
 obtain⟨y0,y1,y2,y3,y4,y5⟩:=ca.blk.cells
 have hsz:=hD4.size
 have hlen:=fun ty=>World.ownsMap.len hm4 Tryz.underlying186 ty
 have hlend:=fun ty=>World.ownsMap.len (ownsMap_keep (w':=w4.drew) hm4 rfl) Tryz.underlying186 ty
 rw[hsz]at hlen hlend
 have hat':∀y,(f' y).at_=(newE f E x (.slice (some ⟨g,0,none⟩) 512 cap) y).at_:=fun y=>by rw[hf'];exact (lnk_same _ _ _ _).1
 have hll:((a :: es)++[E]).length=room+1:=by simp at hrm ⊢;omega
 rw[hll]at hlen hlend
 have hnr:(room:Int)<((room+1:Nat):Int):=by omega
 have cb:Ca (fun k=>X k\/k=E) w4 c p room r mp (n+1) hi mi (a :: (es++[E])) f' Z':=ca
 have v3:=(cb.ens r (by simp)).cells.2.2.2
 rw[cb.ring.first]at v3
 have hna:a≠E:=fun q=>nen (by rw[<- q];simp)
 have hwa':(Lit.int .i64 (f' a).at_).wf=true:=by rw[hat',newE_ne f _ _ hna];exact hwa
 have HL:=hid (letGo_first cb.drew hwa')
 have FIN:Hid (∀w5,Ca (fun k=>X k\/k=E) w5 c p room r mp (n+1) hi mi (es++[E]) (unl f' a) Z'->But (fun k=>X k\/k=E) w4.drew w5->(∀g n cap zs,Own w4.drew g n cap zs->Own w5 g n cap zs)->(∃f' Z',Ca (fun k=>X k\/k=E) w5 c p room r mp (n+1) hi mi (es++[E]) f' Z'/\(f' E).at_=x/\(∀y,y≠E->(f' y).at_=(f y).at_)/\Z' E=zs/\∀y,y≠E->Z' y=Z y)/\But X w w5/\Own w5 g 512 cap zs):=fun w5 c5 b5 o5=>⟨⟨_,Z',c5,by rw[(unl_same _ _ _).1,hat',newE_at],fun y hy=>by rw[(unl_same _ _ _).1,hat',newE_ne f _ _ hy],z1,z2⟩,bx.drew.comp b5 (fun k hk q=>by
  rcases q with q | q
  ·exact q
  ·omega),o5 g 512 cap zs ox⟩
 generalize room+1=ln at *
 clear HML h4 b4 ca cb hm4 hD4 G x0 x1 x2 x3 x4 x5 u0 u1 u2 u3 u4 u5 H bx ox
 go_wp2_with fail
 go_region
 all_goals go_wp2_with fail
 all_goals
  refine Calls.mono HL.out ?_
  rintro q w5 ⟨rfl,h5,b5,o5⟩
  go_wp2
  go_end0
  subst hE
  exact⟨rfl,FIN.out w5 h5 b5 o5⟩
open Go.RowKit Go.ChangeMaps
def Cst (X:Nat->Prop) (w:World) (c p room:Nat) (hi mi:Int) (l:List (Int×List Int)):Prop :=
 ∃r mp n es f Z,Ca X w c p room r mp n hi mi es f Z/\l=view es f Z/\es.length<=room/\1<=room/\room<4611686018427387904/\∀e∈es,(Lit.int .i64 (f e).at_).wf=true
theorem Cst.mono{room:Nat}{l:List (Int×List Int)}(h:Cst X w c p room hi mi l)(hX:∀k,k<w.heap.size->X k->Y k):Cst Y w c p room hi mi l:=by
 obtain⟨r,mp,n,es,f,Z,h1,h2⟩:=h
 exact⟨r,mp,n,es,f,Z,h1.mono hX,h2⟩
theorem view_congr{f:Nat->En}{Z Z':Nat->List Int}(h:∀e∈es,(f' e).at_=(f e).at_/\Z' e=Z e):view es f' Z'=view es f Z:=by
 unfold view
 exact List.map_congr_left (fun e he=>by rw[(h e he).1,(h e he).2])
theorem view_app(A B:List Nat)(f:Nat->En)(Z:Nat->List Int):view (A++B) f Z=view A f Z++view B f Z:=by simp[view]
theorem view_none{f:Nat->En}{Z:Nat->List Int}{x:Int}(h:∀e∈es,(f e).at_≠x):(view es f Z).filter (fun q=>q.1≠x)=view es f Z:=by
 rw[List.filter_eq_self]
 intro q hq
 unfold view at hq
 obtain⟨e,he,rfl⟩:=List.mem_map.1 hq
 simpa using h e he
theorem view_len(es:List Nat)(f:Nat->En)(Z:Nat->List Int):(view es f Z).length=es.length:=by simp[view]
theorem hold_any{room:Nat}{l:List (Int×List Int)}(h:Cst X w c p room hi mi l){x:Int}{g cap:Nat}(hO:Own w g 512 cap zs)(hb:Pl.isB zs)(hX:X g)(hat:(Lit.int .i64 x).wf=true) :
  Calls Tryz.prog 218 #[.pointer (some ⟨c,0,none⟩),.int .i64 x,.slice (some ⟨g,0,none⟩) 512 cap] w fun q w'=>q=.returned (.tuple #[])/\Cst (fun k=>X k\/(w.heap.size<=k/\k<w'.heap.size)) w' c p room hi mi (holdL room l x zs)/\But X w w'/\Own w' g 512 cap zs:=by
 obtain⟨r,mp,n,es,f,Z,h1,rfl,h3,h4,h5,h6⟩:=h
 by_cases hin:∃e∈es,(f e).at_=x
 ·obtain⟨e,he,rfl⟩:=hin
  obtain⟨A,B,rfl⟩:=List.append_of_mem he
  refine Calls.mono (hold_hit h1 h3 hO hb hX hat) ?_
  rintro q w' ⟨rfl,⟨f',Z',q1,q2,q3,q4⟩,b,ow⟩
  obtain⟨D,hm,hD⟩:=h1.map
  have hnd:=(List.nodup_cons.1 h1.ring.1).2
  obtain⟨n1,n2,n3⟩:=List.nodup_append.1 hnd
  have hA:∀y∈A,y≠e:=fun y hy q=>n3 y hy e (by simp) q
  have hB:∀y∈B,y≠e:=fun y hy q=>(List.nodup_cons.1 n2).1 (by rw[<- q];exact hy)
  have hA':∀y∈A,(f y).at_≠(f e).at_:=fun y hy q=>hA y hy (hD.uniq (by simp[hy]) (by simp) q)
  have hB':∀y∈B,(f y).at_≠(f e).at_:=fun y hy q=>hB y hy (hD.uniq (by simp[hy]) (by simp) q)
  refine⟨rfl,⟨r,mp,n,_,f',Z',q1.mono (fun k _ q=>.inl q),?_,by simp at h3 ⊢;omega,h4,h5,fun y hy=>by rw[q2];exact h6 y (by simp at hy ⊢;rcases hy with q | q | q <;> simp[q])⟩,b,ow⟩
  have e1:view (A++B++[e]) f' Z'=view A f Z++view B f Z++[((f e).at_,zs)]:=by
   rw[view_app,view_app,view_congr (es:=A) (f:=f) (Z:=Z) (fun y hy=>⟨q2 y,q4 y (hA y hy)⟩),view_congr (es:=B) (f:=f) (Z:=Z) (fun y hy=>⟨q2 y,q4 y (hB y hy)⟩)]
   simp[view,q2,q3]
  have e2:(view (A++e :: B) f Z).filter (fun q=>q.1≠(f e).at_)=view A f Z++view B f Z:=by
   have:view (A++e :: B) f Z=view A f Z++((f e).at_,Z e) :: view B f Z:=by simp[view]
   rw[this,List.filter_append,view_none hA']
   simp only[ne_eq,decide_not,List.filter_cons,decide_true,Bool.not_true,Bool.false_eq_true,if_false]
   have hf:=view_none (Z:=Z) hB'
   simp only[ne_eq,decide_not]at hf
   rw[hf]
  unfold holdL
  rw[e2,e1,if_neg]
  simp[view_len]at h3 ⊢
  omega
 ·have hx:∀e∈es,(f e).at_≠x:=fun e he q=>hin ⟨e,he,q⟩
  have hne:∀y∈es,y≠w.heap.size:=fun y hy q=>Nat.lt_irrefl _ (q ▸ (h1.ens y (by simp[hy])).lt)
  have h1:=h1.tight
  have hln:es.length<maxLen:=by unfold maxLen;omega
  by_cases hf:es.length<room
  ·refine Calls.mono (hold_fits h1 hf hln hx hO hb hX hat) ?_
   rintro q w' ⟨rfl,⟨f',Z',q1,q2,q3,q4,q5⟩,b,ow⟩
   refine⟨rfl,⟨r,mp,_,_,f',Z',q1.mono (fun k hk q=>?_),?_,by simp;omega,h4,h5,fun y hy=>?_⟩,b,ow⟩
   ·rcases q with q | q
    ·exact .inl q
    ·exact .inr ⟨by omega,hk⟩
   ·unfold holdL
    rw[view_none hx,if_neg (by simp[view_len];omega),view_app,view_congr (es:=es) (f:=f) (Z:=Z) (fun y hy=>⟨q3 y (hne y hy),q5 y (hne y hy)⟩)]
    simp[view,q2,q4]
   ·rcases List.mem_append.1 hy with hy | hy
    ·rw[q3 y (hne y hy)];exact h6 y hy
    ·simp at hy;rw[hy,q2];exact hat
  ·obtain⟨a,t,rfl⟩:∃a t,es=a :: t:=by
    cases es with
    | nil=>simp at hf;omega
    | cons a t=>exact⟨a,t,rfl⟩
   refine Calls.mono (hold_full h1 (by omega) (h6 a (by simp)) hln hx hO hb hX hat) ?_
   rintro q w' ⟨rfl,⟨f',Z',q1,q2,q3,q4,q5⟩,b,ow⟩
   have hnt:∀y∈t,y≠w.heap.size:=fun y hy=>hne y (by simp[hy])
   refine⟨rfl,⟨r,mp,_,_,f',Z',q1.mono (fun k hk q=>?_),?_,by simp at h3 ⊢;omega,h4,h5,fun y hy=>?_⟩,b,ow⟩
   ·rcases q with q | q
    ·exact .inl q
    ·exact .inr ⟨by omega,hk⟩
   ·unfold holdL
    rw[view_none hx,if_pos (by simp[view_len]at hf ⊢;omega),view_app,view_congr (es:=t) (f:=f) (Z:=Z) (fun y hy=>⟨q3 y (hnt y hy),q5 y (hnt y hy)⟩)]
    simp[view,q2,q4]
   ·rcases List.mem_append.1 hy with hy | hy
    ·rw[q3 y (hnt y hy)];exact h6 y (by simp[hy])
    ·simp at hy;rw[hy,q2];exact hat
open Go.RowKit Go.ChangeMaps
def Cg (w:World) (c p room:Nat) (v2 v3:Value) (hi mi:Int):Prop:=w.heap[c]?=some (.cells #[.pointer (some ⟨p,0,none⟩),.int .i64 (room:Int),v2,v3,.int .i64 hi,.int .i64 mi] 188 (0,0))
theorem Cg.lt{room:Nat}(h:Cg w c p room v2 v3 hi mi):c<w.heap.size:=(Array.getElem?_eq_some_iff.1 h).1
theorem Cg.cell{room:Nat}(h:Cg w c p room v2 v3 hi mi)(t:Nat):w.cell? ⟨c,t,none⟩=#[Value.pointer (some ⟨p,0,none⟩),.int .i64 (room:Int),v2,v3,.int .i64 hi,.int .i64 mi][t]?:=by
 unfold Cg at h
 simp[World.cell?,h]
theorem Cg.frozen{room:Nat}(h:Cg w c p room v2 v3 hi mi)(t:Nat):w.frozen? ⟨c,t,none⟩=false:=by
 unfold Cg at h
 simp[World.frozen?,h]
theorem Cg.set{room:Nat}(h:Cg w c p room v2 v3 hi mi)(t:Nat)(v:Value):(w.setCell ⟨c,t,none⟩ v).heap[c]?=some (.cells (#[.pointer (some ⟨p,0,none⟩),.int .i64 (room:Int),v2,v3,.int .i64 hi,.int .i64 mi].setIfInBounds t v) 188 (0,0)):=by
 unfold Cg at h
 simp only[World.setCell,Array.getElem?_modify]
 rw[h]
 simp
theorem ownsMap_new(w:World):(w.alloc (.map #[] 0)).ownsMap Tryz.prog 3 ptrElem w.heap.size 0 (.map []:DataW Nat):=World.ownsMap_made w Tryz.prog 3 ptrElem
theorem holdNothing_any{room:Nat}(h:Cg w c p room v2 v3 hi mi)(hr:1<=room)(hr2:room<4611686018427387904) :
  Calls Tryz.prog 117 #[.pointer (some ⟨c,0,none⟩)] w fun q w'=>q=.returned (.tuple #[])/\Cst (fun k=>k=c\/w.heap.size<=k) w' c p room hi mi []/\But (fun k=>k=c) w w':=by
 have HA:=hid (alone_any 0 w)
 have hcl:=h.lt
 go_enter Tryz.func117,Tryz.ntmps117
 go_wp2_with fail
 refine Calls.mono HA.out ?_
 rintro q w1 ⟨rfl,e1,b1,s1⟩
 have g1:Cg w1 c p room v2 v3 hi mi:=(b1.block c hcl).trans h
 have c2:w1.cell? ⟨c,2,none⟩=some v2:=g1.cell 2
 have f2:=g1.frozen 2
 have g2:Cg (w1.setCell ⟨c,2,none⟩ (.pointer (some ⟨w.heap.size,0,none⟩))) c p room (.pointer (some ⟨w.heap.size,0,none⟩)) v3 hi mi:=by simpa [Cg] using g1.set 2 (.pointer (some ⟨w.heap.size,0,none⟩))
 obtain⟨w2,hw2⟩:∃w2,w2=w1.setCell ⟨c,2,none⟩ (.pointer (some ⟨w.heap.size,0,none⟩)):=⟨_,rfl⟩
 rw[<- hw2]at g2
 have b2:But (fun k=>k=c) w1 w2:=by rw[hw2];exact (But.refl (fun y=>y=c) w1).setCell (p:=⟨c,2,none⟩) (show (fun y=>y=c) c from rfl) _
 have z2:w2.heap.size=w1.heap.size:=by rw[hw2];simp[World.setCell]
 obtain⟨w3,hw3⟩:∃w3,w3=w2.setCell ⟨c,3,none⟩ (.map (some (w.heap.size+1))):=⟨_,rfl⟩
 have g3:Cab w3 c p room w.heap.size (w.heap.size+1) hi mi:=by rw[hw3];simpa [Cab] using g2.set 3 (.map (some (w.heap.size+1)))
 have b3:But (fun k=>k=c) w2 w3:=by rw[hw3];exact (But.refl (fun y=>y=c) w2).setCell (p:=⟨c,3,none⟩) (show (fun y=>y=c) c from rfl) _
 have z3:w3.heap.size=w.heap.size+1:=by rw[hw3];simp[World.setCell];omega
 obtain⟨w4,hw4⟩:∃w4,w4=w3.alloc (.map #[] 0):=⟨_,rfl⟩
 have m4:w4.ownsMap Tryz.prog 3 ptrElem (w.heap.size+1) 0 (.map []:DataW Nat):=by rw[hw4,<- z3];exact ownsMap_new w3
 have b4:Below w3.heap.size w3 w4:=by rw[hw4];exact (Below.refl _ _).alloc (Nat.le_refl _) _
 have g4:Cab w4 c p room w.heap.size (w.heap.size+1) hi mi:=(b4.block c (by omega)).trans g3
 have e4:EnB w4 w.heap.size ⟨0,.slice none 0 0,w.heap.size,w.heap.size⟩:=(b4.block w.heap.size (by omega)).trans ((b3.block w.heap.size (by omega) (by omega)).trans ((b2.block w.heap.size (by omega) (by omega)).trans e1))
 have FIN:Hid (Cst (fun k=>k=c\/w.heap.size<=k) w4 c p room hi mi []/\But (fun k=>k=c) w w4):=by
  refine⟨⟨w.heap.size,w.heap.size+1,0,[],fun _=>⟨0,.slice none 0 0,w.heap.size,w.heap.size⟩,fun _=>[],⟨g4,?_,⟨by simp,rfl,rfl,trivial⟩,⟨.map [],m4,BM.nil _⟩,?_,.inl rfl,.inr (by omega),?_⟩,rfl,by simp,hr,hr2,?_⟩,((But.of_below b1).trans b2).trans (b3.trans (But.of_below b4))⟩
  ·intro x hx
   simp at hx
   rw[hx]
   exact e4
  ·intro e he
   cases he
  ·intro x hx
   simp at hx
   exact .inr (by omega)
  ·intro e he
   cases he
 have c3:w2.cell? ⟨c,3,none⟩=some v3:=g2.cell 3
 have f3:=g2.frozen 3
 have hmm:=@run_makeMap Tryz.prog
 rw[hw2]at c3 f3
 clear g1 g2 g3 g4 b1 b2 b3 b4 e1 e4 m4 z2 z3 HA h
 go_wp2
 go_end0
 rw[<- hw2,<- hw3,<- hw4]
 exact⟨rfl,FIN.out.1,FIN.out.2⟩
open Go.RowKit Go.ChangeMaps
theorem Ca.keep{room:Nat}{f:Nat->En}{Z:Nat->List Int}(h:Ca X w c p room r mp n hi mi es f Z)(hk:∀k,X k->k<w.heap.size->w'.heap[k]?=w.heap[k]?):Ca X w' c p room r mp n hi mi es f Z:=by
 obtain⟨D,hm,hD⟩:=h.map
 refine⟨(hk c h.xc h.blk.lt).trans h.blk,fun x hx=>(hk x (h.xe x hx) (h.ens x hx).lt).trans (h.ens x hx),h.ring,⟨D,ownsMap_keep hm (hk mp h.xm (ownsMap_lt hm)),hD⟩,fun e he=>?_,h.xc,h.xm,h.xe⟩
 obtain⟨g,cap,q1,q2,q3,q4⟩:=h.dat e he
 exact⟨g,cap,q1,q2.keep (hk g q4 q2.lt),q3,q4⟩
theorem Cst.keep{room:Nat}{l:List (Int×List Int)}(h:Cst X w c p room hi mi l)(hk:∀k,X k->k<w.heap.size->w'.heap[k]?=w.heap[k]?):Cst X w' c p room hi mi l:=by
 obtain⟨r,mp,n,es,f,Z,h1,h2⟩:=h
 exact⟨r,mp,n,es,f,Z,h1.keep hk,h2⟩
theorem Cst.but{room:Nat}{l:List (Int×List Int)}(h:Cst X w c p room hi mi l)(b:But Y w w')(hxy:∀k,X k->¬Y k):Cst X w' c p room hi mi l:=h.keep (fun k hx hk=>b.block k hk (hxy k hx))
theorem Cst.cut{room:Nat}{l:List (Int×List Int)}(h:Cst X w c p room hi mi l):Cst (fun k=>X k/\k<w.heap.size) w c p room hi mi l:=h.mono (fun _ hk hx=>⟨hx,hk⟩)
theorem Cst.cg{room:Nat}{l:List (Int×List Int)}(h:Cst X w c p room hi mi l):∃v2 v3,Cg w c p room v2 v3 hi mi/\X c/\1<=room/\room<4611686018427387904:=by
 obtain⟨r,mp,n,es,f,Z,h1,_,_,h4,h5,_⟩:=h
 exact⟨_,_,h1.blk,h1.xc,h4,h5⟩
theorem Flush_disk{room:Nat}(h:Cg w c p room v2 v3 hi mi){R:Int->World->Prop}(H:Calls Tryz.prog 116 #[.pointer (some ⟨p,0,none⟩)] w fun e w'=>∃x,e=.returned (.int .i64 x)/\R x w') :
  Calls Tryz.prog 121 #[.pointer (some ⟨c,0,none⟩)] w fun e w'=>∃x,e=.returned (.int .i64 x)/\R x w':=by
 have c0:w.cell? ⟨c,0,none⟩=some (.pointer (some ⟨p,0,none⟩)):=h.cell 0
 have HF:=hid H
 clear h H
 go_enter Tryz.func121,Tryz.ntmps121
 go_wp2_with fail
 refine Calls.mono HF.out ?_
 rintro q w1 ⟨x,rfl,h1⟩
 have FIN:=hid h1
 clear h1 HF
 go_wp2
 go_ret
 exact⟨x,rfl,FIN.out⟩
theorem CNew_ok(p room:Nat)(lo:1<=room)(hi:room<=4096) :
  Calls Tryz.prog 68 #[.pointer (some ⟨p,0,none⟩),.int .i64 (room:Int)] w fun q w'=>∃c,q=.returned (.tuple #[.pointer (some ⟨c,0,none⟩),.int .i64 0])/\w.heap.size<=c/\Cst (fun k=>w.heap.size<=k) w' c p room 0 0 []/\Below w.heap.size w w':=by
 obtain⟨w1,hw1⟩:∃w1,w1=w.alloc (.cells #[.pointer (some ⟨p,0,none⟩),.int .i64 (room:Int),.pointer none,.map none,.int .i64 0,.int .i64 0] 188):=⟨_,rfl⟩
 have g1:Cg w1 w.heap.size p room (.pointer none) (.map none) 0 0:=by
  rw[hw1]
  show (w.heap.push _)[w.heap.size]?=_
  simp
 have b1:Below w.heap.size w w1:=by rw[hw1];exact (Below.refl _ _).alloc (Nat.le_refl _) _
 have z1:w1.heap.size=w.heap.size+1:=by rw[hw1];simp
 have HN:=hid (holdNothing_any g1 lo (by omega))
 clear g1
 have n0:¬((room:Int)<1):=by omega
 have n1:¬((4096:Int)<(room:Int)):=by omega
 go_enter Tryz.func68,Tryz.ntmps68
 go_wp2_with fail
 rw[<- hw1]
 refine Calls.mono HN.out ?_
 rintro q w2 ⟨rfl,h2,b2⟩
 have FIN:=hid (And.intro (h2.mono (Y:=fun k=>w.heap.size<=k) (fun k _ q=>by rcases q with q | q <;> omega)) (b1.trans ((b2.below (B:=w.heap.size) (by omega) (fun k hk q=>by omega)))))
 clear h2 b2 HN b1 z1
 go_wp2
 go_ret2
 exact⟨_,rfl,Nat.le_refl _,FIN.out.1,FIN.out.2⟩
end Go.Proofs.YtlefjidbpjkhlaaGreat
