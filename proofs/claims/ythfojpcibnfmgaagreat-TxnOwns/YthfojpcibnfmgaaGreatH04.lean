import Derived.Test.YthfojpcibnfmgaaGreatH03
import Derived.Deep.RegionHeld3
set_option maxRecDepth 100000
set_option maxHeartbeats 16000000
namespace Go.Proofs.YthfojpcibnfmgaaGreat
variable {w w' w1 w2 w3:World}
variable {b e e' m mp n p r x z:Nat}
variable {V X Y:Nat->Prop}
variable {f f':Nat->En}
variable {A es:List Nat}
variable {hi mi:Int}
variable {zs:List Int}
open Go.RowKit
theorem EnB.cells{e:En}(h:EnB w x e):w.cell? ⟨x,0,none⟩=some (.int .i64 e.at_)/\w.cell? ⟨x,1,none⟩=some e.dv/\w.cell? ⟨x,2,none⟩=some (.pointer (some ⟨e.bf,0,none⟩))/\w.cell? ⟨x,3,none⟩=some (.pointer (some ⟨e.af,0,none⟩)):=⟨h.cell 0,h.cell 1,h.cell 2,h.cell 3⟩
theorem unlink_any(h:Ens w V f)(he:V e)(hb:V (f e).bf)(ha:V (f e).af) :
  Calls Tryz.prog 202 #[.pointer (some ⟨e,0,none⟩)] w fun r w'=>r=.returned (.tuple #[])/\Ens w' V (unl f e)/\But V w w':=by
 obtain⟨_,_,c2,c3⟩:=(h e he).cells
 have x3:=(h _ hb).cells.2.2.2
 have y3:=(h _ hb).frozen 3
 have h1:=h.setA hb (f e).af
 have c2':(w.setCell ⟨(f e).bf,3,none⟩ (.pointer (some ⟨(f e).af,0,none⟩))).cell? ⟨e,2,none⟩=some (.pointer (some ⟨(f e).bf,0,none⟩)):=by
  have:=(h1 e he).cells.2.2.1
  rw[setAf_bf]at this
  exact this
 have c3':(w.setCell ⟨(f e).bf,3,none⟩ (.pointer (some ⟨(f e).af,0,none⟩))).cell? ⟨e,3,none⟩=some (.pointer (some ⟨(f e).af,0,none⟩)):=by
  have:=(h1 e he).cells.2.2.2
  rw[setAf_af]at this
  split at this <;> exact this
 have x2:=(h1 _ ha).cells.2.2.1
 have y2:=(h1 _ ha).frozen 2
 have FIN:=hid (And.intro (h1.setB ha (f e).bf) (((But.refl V w).setCell (p:=⟨(f e).bf,3,none⟩) hb (.pointer (some ⟨(f e).af,0,none⟩))).setCell (p:=⟨(f e).af,2,none⟩) ha (.pointer (some ⟨(f e).bf,0,none⟩))))
 have FE:Hid (unl f e=setBf (setAf f (f e).bf (f e).af) (f e).af (f e).bf):=rfl
 generalize setAf f (f e).bf (f e).af=f1 at *
 generalize (f1 (f e).af).bf=ob at *
 generalize (f (f e).bf).af=oa at *
 generalize (f e).bf=b at *
 generalize (f e).af=a at *
 clear h h1
 go_enter Tryz.func202,Tryz.ntmps202
 go_wp2_with fail
 go_region
 all_goals go_wp2_with fail
 all_goals go_region
 all_goals go_wp2
 all_goals
  go_end0
  exact⟨rfl,by rw[FE.out];exact FIN.out.1,⟨FIN.out.2.os,FIN.out.2.tape,FIN.out.2.output,FIN.out.2.size,FIN.out.2.block⟩⟩
theorem linkBefore_any(h:Ens w V f)(he:V e)(hn:V n)(hp:V (f n).bf) :
  Calls Tryz.prog 203 #[.pointer (some ⟨e,0,none⟩),.pointer (some ⟨n,0,none⟩)] w fun r w'=>r=.returned (.tuple #[])/\Ens w' V (lnk f e n)/\But V w w':=by
 have c2:=(h n hn).cells.2.2.1
 have x2:=(h e he).cells.2.2.1
 have y2:=(h e he).frozen 2
 have h1:=h.setB he (f n).bf
 have x3:=(h1 e he).cells.2.2.2
 have y3:=(h1 e he).frozen 3
 have h2:=h1.setA he n
 have e2:((w.setCell ⟨e,2,none⟩ (.pointer (some ⟨(f n).bf,0,none⟩))).setCell ⟨e,3,none⟩ (.pointer (some ⟨n,0,none⟩))).cell? ⟨e,2,none⟩=some (.pointer (some ⟨(f n).bf,0,none⟩)):=by
  have:=(h2 e he).cells.2.2.1
  rw[setAf_bf,setBf_bf,if_pos rfl]at this
  exact this
 have p3:=(h2 _ hp).cells.2.2.2
 have z3:=(h2 _ hp).frozen 3
 have h3:=h2.setA hp e
 have n2:=(h3 n hn).cells.2.2.1
 have z2:=(h3 n hn).frozen 2
 have FIN:=hid (And.intro (h3.setB hn e) (((((But.refl V w).setCell (p:=⟨e,2,none⟩) he (.pointer (some ⟨(f n).bf,0,none⟩))).setCell (p:=⟨e,3,none⟩) he (.pointer (some ⟨n,0,none⟩))).setCell (p:=⟨(f n).bf,3,none⟩) hp (.pointer (some ⟨e,0,none⟩))).setCell (p:=⟨n,2,none⟩) hn (.pointer (some ⟨e,0,none⟩))))
 have FE:Hid (lnk f e n=setBf (setAf (setAf (setBf f e (f n).bf) e n) (f n).bf e) n e):=rfl
 generalize setBf f e (f n).bf=f1 at *
 generalize setAf f1 e n=f2 at *
 generalize setAf f2 (f n).bf e=f3 at *
 generalize (f3 n).bf=o3 at *
 generalize (f2 (f n).bf).af=o2 at *
 generalize (f1 e).af=o1 at *
 generalize (f e).bf=o0 at *
 generalize (f n).bf=b at *
 clear h h1 h2 h3
 go_enter Tryz.func203,Tryz.ntmps203
 go_wp2
 go_end0
 exact⟨rfl,by rw[FE.out];exact FIN.out.1,FIN.out.2⟩
theorem alone_any(x:Int)(w:World):Calls Tryz.prog 134 #[.int .i64 x] w fun r w'=>r=.returned (.pointer (some ⟨w.heap.size,0,none⟩))/\EnB w' w.heap.size ⟨x,.slice none 0 0,w.heap.size,w.heap.size⟩/\Below w.heap.size w w'/\w'.heap.size=w.heap.size+1:=by
 have FIN:Hid (EnB (w.alloc (.cells #[.int .i64 x,.slice none 0 0,.pointer (some ⟨w.heap.size,0,none⟩),.pointer (some ⟨w.heap.size,0,none⟩)] 230)) w.heap.size ⟨x,.slice none 0 0,w.heap.size,w.heap.size⟩):=by
  show (w.heap.push _)[w.heap.size]?=_
  simp
 go_enter Tryz.func134,Tryz.ntmps134
 go_wp2
 go_ret
 exact⟨rfl,FIN.out,(Below.refl _ _).alloc (Nat.le_refl _) _,by simp⟩
theorem makeLatest_any(h:Ens w V f){c:Nat}(hc:w.cell? ⟨c,2,none⟩=some (.pointer (some ⟨r,0,none⟩)))(hcV:¬V c)(hcl:c<w.heap.size)(he:V e)(hb:V (f e).bf)(ha:V (f e).af)(hr:V r)(hp:V (unl f e r).bf) :
  Calls Tryz.prog 195 #[.pointer (some ⟨c,0,none⟩),.pointer (some ⟨e,0,none⟩)] w fun q w'=>q=.returned (.tuple #[])/\Ens w' V (lnk (unl f e) e r)/\But V w w':=by
 have HU:=hid (unlink_any h he hb ha)
 clear h
 go_enter Tryz.func195,Tryz.ntmps195
 go_wp2_with fail
 refine Calls.mono HU.out ?_
 rintro q w1 ⟨rfl,h1,b1⟩
 have c2:=(b1.cell (p:=⟨c,2,none⟩) hcl hcV).trans hc
 have HL:=hid (linkBefore_any h1 he hr hp)
 have B1:=hid b1
 clear HU h1 b1
 go_wp2_with fail
 refine Calls.mono HL.out ?_
 rintro q w2 ⟨rfl,h2,b2⟩
 have F:=hid (And.intro h2 (B1.out.trans b2))
 clear HL h2 b2
 go_wp2
 go_end0
 exact⟨rfl,F.out.1,F.out.2⟩
open Go.RowKit
def ptrElem:Value->Option (DataW Nat×List MemPlace)
 | .pointer none=>some (.nil,[])
 | .pointer (some ⟨e,0,none⟩)=>some (.held e,[])
 | _=>none
theorem ptrElem_inv{v:Value}{ps:List MemPlace}(h:ptrElem v=some (.held e,ps)):v=.pointer (some ⟨e,0,none⟩):=by
 unfold ptrElem at h
 split at h
 ·cases h
 ·cases h;rfl
 ·cases h
structure BM (D:DataW Nat) (es:List Nat) (f:Nat->En):Prop where
 tidy:Maps.Tidy D
 size:Maps.size D=es.length
 hit:∀e∈es,Maps.has D (.int .i64 (f e).at_)=true/\∀z,D.atKey (.int .i64 (f e).at_) z=.held e
 miss:∀x:Int,(∀e∈es,(f e).at_≠x)->Maps.has D (.int .i64 x)=false
theorem BM.uniq{D:DataW Nat}(h:BM D es f)(he:e∈es)(he':e'∈es)(ha:(f e).at_=(f e').at_):e=e':=by
 have h1:=(h.hit e he).2 .nil
 rw[ha,(h.hit e' he').2 .nil]at h1
 cases h1
 rfl
theorem BM.congr{D:DataW Nat}{es':List Nat}(h:BM D es f)(hm:∀e,e∈es' ↔ e∈es)(hl:es'.length=es.length)(hf:∀e∈es,(f' e).at_=(f e).at_):BM D es' f' :=
 ⟨h.tidy,by rw[hl];exact h.size,fun e he=>by rw[hf e ((hm e).1 he)];exact h.hit e ((hm e).1 he),fun x hx=>h.miss x (fun e he=>by rw[<- hf e he];exact hx e ((hm e).2 he))⟩
theorem BM.put{D:DataW Nat}(h:BM D es f)(hn:∀e'∈es,(f e').at_≠(f e).at_):BM (D.put (.int .i64 (f e).at_) (.held e)) (es++[e]) f:=by
 have hk:WideAt.IsKeyLit (.int .i64 (f e).at_):=trivial
 have h0:=h.miss (f e).at_ hn
 refine⟨h.tidy.put hk _,by rw[Maps.size_put h.tidy,h0];simp[h.size],fun e' he'=>?_,fun x hx=>?_⟩
 ·rcases List.mem_append.1 he' with he' | he'
  ·have hne:(Lit.int .i64 (f e').at_)≠.int .i64 (f e).at_:=fun q=>hn e' he' (by injection q)
   exact⟨by rw[Maps.has_put_other hne];exact (h.hit e' he').1,fun z=>by rw[Maps.atKey_put_other hne];exact (h.hit e' he').2 z⟩
  ·simp at he'
   subst he'
   exact⟨Maps.has_put_same h.tidy.isMap hk _,fun z=>Maps.atKey_put_same h.tidy.isMap hk _ z⟩
 ·have hne:(Lit.int .i64 x)≠.int .i64 (f e).at_:=fun q=>hx e (by simp) (by injection q with _ q;exact q.symm)
  rw[Maps.has_put_other hne]
  exact h.miss x (fun e' he'=>hx e' (by simp[he']))
theorem BM.del{D:DataW Nat}{B:List Nat}(h:BM D (e :: B) f)(hn:e ∉ B):BM (D.del (.int .i64 (f e).at_)) B f:=by
 have he:=(h.hit e (by simp)).1
 have hs:=Maps.size_del (k:=.int .i64 (f e).at_) h.tidy
 rw[he,h.size]at hs
 have hat:∀e'∈B,(f e').at_≠(f e).at_:=fun e' he' ha=>hn (by rw[<- h.uniq (by simp[he']:e'∈e :: B) (by simp) ha];exact he')
 refine⟨h.tidy.del _,by simp at hs;omega,fun e' he'=>?_,fun x hx=>?_⟩
 ·have hne:(Lit.int .i64 (f e').at_)≠.int .i64 (f e).at_:=fun q=>hat e' he' (by injection q)
  exact⟨by rw[Maps.has_del_other hne];exact (h.hit e' (by simp[he'])).1,fun z=>by rw[Maps.atKey_del_other hne];exact (h.hit e' (by simp[he'])).2 z⟩
 ·by_cases hxe:x=(f e).at_
  ·rw[hxe];exact Maps.has_del_same
  ·have hne:(Lit.int .i64 x)≠.int .i64 (f e).at_:=fun q=>hxe (by injection q)
   rw[Maps.has_del_other hne]
   exact h.miss x (fun e' he'=>by
    rcases List.mem_cons.1 he' with q | q
    ·rw[q];exact fun q=>hxe q.symm
    ·exact hx e' q)
theorem BM.nil(f:Nat->En):BM (.map []) [] f:=⟨Maps.tidy_empty,rfl,(fun e he=>by cases he),fun _ _=>rfl⟩
open Go.RowKit Go.ChangeMaps
theorem turned_but(h:w.mapTurned w' b):But (fun x=>x=b) w w':=by
 obtain⟨es,ck,es',ck',_,rfl⟩:=h
 exact⟨rfl,rfl,rfl,by simp[setBlock],fun k _ hk=>by simp[setBlock,Array.getElem?_setIfInBounds];intro e;exact absurd e.symm hk⟩
theorem ownsMap_lt{D:DataW Nat}(h:w.ownsMap Tryz.prog 3 ptrElem mp n D):mp<w.heap.size:=by
 obtain⟨es,ck,h1,_⟩:=h
 exact (Array.getElem?_eq_some_iff.1 h1).1
theorem ownsMap_keep{D:DataW Nat}(h:w.ownsMap Tryz.prog 3 ptrElem mp n D)(hk:w'.heap[mp]?=w.heap[mp]?):w'.ownsMap Tryz.prog 3 ptrElem mp n D:=by
 obtain⟨es,ck,h1,h2⟩:=h
 exact⟨es,ck,hk.trans h1,h2⟩
def Cab (w:World) (c p room:Nat) (r mp:Nat) (hi mi:Int):Prop:=w.heap[c]?=some (.cells #[.pointer (some ⟨p,0,none⟩),.int .i64 (room:Int),.pointer (some ⟨r,0,none⟩),.map (some mp),.int .i64 hi,.int .i64 mi] 194 (0,0))
theorem Cab.lt{c room:Nat}(h:Cab w c p room r mp hi mi):c<w.heap.size:=(Array.getElem?_eq_some_iff.1 h).1
theorem Cab.cells{c room:Nat}(h:Cab w c p room r mp hi mi):w.cell? ⟨c,0,none⟩=some (.pointer (some ⟨p,0,none⟩))/\w.cell? ⟨c,1,none⟩=some (.int .i64 (room:Int))/\w.cell? ⟨c,2,none⟩=some (.pointer (some ⟨r,0,none⟩))/\w.cell? ⟨c,3,none⟩=some (.map (some mp))/\w.cell? ⟨c,4,none⟩=some (.int .i64 hi)/\w.cell? ⟨c,5,none⟩=some (.int .i64 mi):=by
 unfold Cab at h
 refine⟨?_,?_,?_,?_,?_,?_⟩ <;> simp[World.cell?,h]
theorem Cab.frozen{c room:Nat}(h:Cab w c p room r mp hi mi)(t:Nat):w.frozen? ⟨c,t,none⟩=false:=by
 unfold Cab at h
 simp[World.frozen?,h]
theorem Cab.ne_ent{c room:Nat}(h:Cab w c p room r mp hi mi){e:En}(hx:EnB w x e):x≠c:=fun q=>by
 unfold Cab at h
 unfold EnB at hx
 rw[q,h]at hx
 cases hx
theorem ent_ne_map{D:DataW Nat}(h:w.ownsMap Tryz.prog 3 ptrElem mp n D){e:En}(hx:EnB w x e):x≠mp:=fun q=>by
 obtain⟨es,ck,h1,_⟩:=h
 unfold EnB at hx
 rw[q,h1]at hx
 cases hx
theorem Cab.ne_map{c room mp':Nat}{D:DataW Nat}(h:Cab w c p room r mp hi mi)(hm:w.ownsMap Tryz.prog 3 ptrElem mp' n D):c≠mp':=fun q=>by
 obtain⟨es,ck,h1,_⟩:=hm
 unfold Cab at h
 rw[q,h1]at h
 cases h
structure Ca (X:Nat->Prop) (w:World) (c p room r mp n:Nat) (hi mi:Int) (es:List Nat) (f:Nat->En) (Z:Nat->List Int):Prop where
 blk:Cab w c p room r mp hi mi
 ens:Ens w (fun x=>x∈r :: es) f
 ring:Rg f r es
 map:∃D,w.ownsMap Tryz.prog 3 ptrElem mp n D/\BM D es f
 dat:∀e∈es,∃g cap,(f e).dv=.slice (some ⟨g,0,none⟩) 512 cap/\Own w g 512 cap (Z e)/\Pl.isB (Z e)/\X g
 xc:X c
 xm:X mp
 xe:∀x∈r :: es,X x
theorem letGo_any{c room:Nat}{B:List Nat}{D:DataW Nat}(hc:Cab w c p room r mp hi mi)(hE:Ens w V f)(he:V e)(hb:V (f e).bf)(ha:V (f e).af)(hm:w.ownsMap Tryz.prog 3 ptrElem mp n D)(hD:BM D (e :: B) f)(hn:e ∉ B)(hat:(Lit.int .i64 (f e).at_).wf=true) :
  Calls Tryz.prog 196 #[.pointer (some ⟨c,0,none⟩),.pointer (some ⟨e,0,none⟩)] w fun q w'=>q=.returned (.tuple #[])/\Ens w' V (unl f e)/\(∃D',w'.ownsMap Tryz.prog 3 ptrElem mp n D'/\BM D' B (unl f e))/\But (fun x=>V x\/x=mp) w w':=by
 have HU:=hid (unlink_any hE he hb ha)
 have hVc:¬V c:=fun hv=>hc.ne_ent (hE c hv) rfl
 have hVm:¬V mp:=fun hv=>ent_ne_map hm (hE mp hv) rfl
 have hkey:keyOf Tryz.prog 3 (.int .i64 (f e).at_)=some (.int .i64 (f e).at_):=Maps.keyOf_int_mk Tryz.underlying3 hat
 have hcl:=hc.lt
 have c3:=hc.cells.2.2.2.1
 have hml:=ownsMap_lt hm
 have Hm:=hid (And.intro hm hD)
 clear hE hc hm hD
 go_enter Tryz.func196,Tryz.ntmps196
 go_wp2_with fail
 refine Calls.mono HU.out ?_
 rintro q w1 ⟨rfl,h1,b1⟩
 have d3:=(b1.cell (p:=⟨c,3,none⟩) hcl hVc).trans c3
 have a0:=(h1 e he).cells.1
 rw[(unl_same f e e).1]at a0
 have hm1:=ownsMap_keep Hm.out.1 (b1.block mp hml hVm)
 obtain⟨w2,hrun,hm2,ht2⟩:=World.ownsMap.drop (w:=w1.drew) (ownsMap_keep (w':=w1.drew) hm1 rfl) law3 Tryz.underlying192 hkey 0
 have b2:=turned_but ht2
 have hVx:∀x,V x->w2.heap[x]?=w1.heap[x]?:=fun x hx=>b2.block x (h1 x hx).lt (fun q=>hVm (by rw[<- q];exact hx))
 have FIN:=hid (And.intro (fun x hx=>(hVx x hx).trans (h1 x hx):Ens w2 V (unl f e)) (And.intro (And.intro hm2 ((Hm.out.2.del hn).congr (f':=unl f e) (fun _=>Iff.rfl) rfl (fun e' _=>(unl_same f e e').1))) ((b1.mono (fun x _ q=>.inl q)).step (Y:=fun x=>x=mp) ⟨b2.os,b2.tape,b2.output,b2.size,b2.block⟩ (fun x _ q=>.inr q):But (fun x=>V x\/x=mp) w w2)))
 clear HU h1 b1 hm1 c3 hm2 ht2 b2 hVx Hm
 generalize (f e).at_=x at *
 go_wp2_with fail
 go_region
 all_goals go_wp2
 all_goals
  go_end0
  exact⟨rfl,FIN.out.1,⟨_,FIN.out.2.1.1,FIN.out.2.1.2⟩,FIN.out.2.2⟩
open Go.RowKit Go.ChangeMaps
theorem Rg.bfr(h:Rg f r es):(f r).bf∈r :: es:=by
 obtain⟨Q',z,hQ⟩:=last_form r es
 have e1:r :: es++[r]=Q'++z :: [r]:=by
  have:r :: es++[r]=(r :: es)++[r]:=rfl
  rw[this,hQ]
  simp
 have hl:=h.2
 rw[e1,Lk_app]at hl
 obtain⟨_,_,h2,_⟩:=hl
 rw[h2,hQ]
 simp
def view (es:List Nat) (f:Nat->En) (Z:Nat->List Int):List (Int×List Int):=es.map fun e=>((f e).at_,Z e)
def holdL (room:Nat) (l:List (Int×List Int)) (x:Int) (zs:List Int):List (Int×List Int) :=
 if room<(l.filter (fun q=>q.1≠x)++[(x,zs)]).length then (l.filter (fun q=>q.1≠x)++[(x,zs)]).tail else l.filter (fun q=>q.1≠x)++[(x,zs)]
theorem setDv_same(f:Nat->En)(x:Nat)(v:Value)(z:Nat):(setDv f x v z).at_=(f z).at_/\(setDv f x v z).af=(f z).af/\(setDv f x v z).bf=(f z).bf:=by unfold setDv;split <;> simp_all
theorem setDv_at(f:Nat->En)(x:Nat)(v:Value):(setDv f x v x).dv=v:=by unfold setDv;rw[if_pos rfl]
theorem setDv_ne(f:Nat->En)(v:Value)(h:z≠x):setDv f x v z=f z:=if_neg h
theorem Ca.drew{c room:Nat}{Z:Nat->List Int}(h:Ca X w c p room r mp n hi mi es f Z):Ca X w.drew c p room r mp n hi mi es f Z:=⟨h.blk,h.ens,h.ring,h.map,h.dat,h.xc,h.xm,h.xe⟩
theorem zero45(w:World):(zeroValue 191).run Tryz.prog w=.ok (.pointer none) w:=by kernel_rfl
theorem hold_hit{c room:Nat}{B:List Nat}{Z:Nat->List Int}(h:Ca X w c p room r mp n hi mi (A++e :: B) f Z)(hrm:(A++e :: B).length<=room){g cap:Nat}(hO:Own w g 512 cap zs)(hb:Pl.isB zs)(hX:X g)(hat:(Lit.int .i64 (f e).at_).wf=true) :
  Calls Tryz.prog 178 #[.pointer (some ⟨c,0,none⟩),.int .i64 (f e).at_,.slice (some ⟨g,0,none⟩) 512 cap] w fun q w'=>q=.returned (.tuple #[])/\(∃f' Z',Ca X w' c p room r mp n hi mi (A++B++[e]) f' Z'/\(∀y,(f' y).at_=(f y).at_)/\Z' e=zs/\∀y,y≠e->Z' y=Z y)/\But X w w'/\Own w' g 512 cap zs:=by
 obtain⟨D,hm,hD⟩:=h.map
 have hkey:keyOf Tryz.prog 3 (.int .i64 (f e).at_)=some (.int .i64 (f e).at_):=Maps.keyOf_int_mk Tryz.underlying3 hat
 have heV:e∈r :: (A++e :: B):=by simp
 obtain⟨hhas,hatk⟩:=hD.hit e (by simp)
 obtain⟨x0,x1,x2,x3,x4,x5⟩:=h.blk.cells
 have e1c:=(h.ens e heV).cells.2.1
 have e1f:=(h.ens e heV).frozen 1
 obtain⟨w1,hw1⟩:∃w1,w1=w.setCell ⟨e,1,none⟩ (.slice (some ⟨g,0,none⟩) 512 cap):=⟨_,rfl⟩
 have h1:Ens w1 (fun y=>y∈r :: (A++e :: B)) (setDv f e (.slice (some ⟨g,0,none⟩) 512 cap)):=by rw[hw1];exact h.ens.setD heV _
 have r1:Rg (setDv f e (.slice (some ⟨g,0,none⟩) 512 cap)) r (A++e :: B):=h.ring.congr (fun y _=>⟨(setDv_same f e _ y).2.1,(setDv_same f e _ y).2.2⟩)
 obtain⟨r2,m1,m2⟩:=r1.unl
 have nce:e≠c:=h.blk.ne_ent (h.ens e heV)
 have b1:But (fun y=>y=e) w w1:=by rw[hw1];exact (But.refl (fun y=>y=e) w).setCell (p:=⟨e,1,none⟩) (show (fun y=>y=e) e from rfl) _
 have hcl:=h.blk.lt
 have cb1:Cab w1 c p room r mp hi mi:=(b1.block c hcl (fun q=>nce q.symm)).trans h.blk
 have nen:e ∉ r :: (A++B):=by
  have hn:=h.ring.1
  have hn2:((r :: A)++e :: B).Nodup:=by simpa using hn
  obtain⟨_,n2,n3⟩:=List.nodup_append.1 hn2
  intro hq
  simp at hq
  rcases hq with q | q | q
  ·exact n3 r (by simp) e (by simp) q.symm
  ·exact n3 e (by simp[q]) e (by simp) rfl
  ·exact (List.nodup_cons.1 n2).1 q
 have hbf:(setDv f e (.slice (some ⟨g,0,none⟩) 512 cap) e).bf∈r :: (A++e :: B):=by rcases m1 with q | q;rw[q];simp;simp[q]
 have haf:(setDv f e (.slice (some ⟨g,0,none⟩) 512 cap) e).af∈r :: (A++e :: B):=by rcases m2 with q | q;rw[q];simp;simp[q]
 have hbr:(unl (setDv f e (.slice (some ⟨g,0,none⟩) 512 cap)) e r).bf∈r :: (A++e :: B):=by
  have:=r2.bfr
  simp at this ⊢
  rcases this with q | q | q
  ·exact .inl q
  ·exact .inr (.inl q)
  ·exact .inr (.inr (.inr q))
 have HML:=hid (makeLatest_any h1 (c:=c) cb1.cells.2.2.1 (fun hv=>cb1.ne_ent (h1 c hv) rfl) cb1.lt heV hbf haf (by simp) hbr)
 have hml:=ownsMap_lt hm
 have nem:e≠mp:=ent_ne_map hm (h.ens e heV)
 have hVm:¬mp∈r :: (A++e :: B):=fun hv=>ent_ne_map hm (h.ens mp hv) rfl
 have hVc:¬c∈r :: (A++e :: B):=fun hv=>h.blk.ne_ent (h.ens c hv) rfl
 have H:=hid (And.intro h (And.intro hD (And.intro r2 nen)))
 have HF:Hid (∀w2,Ens w2 (fun y=>y∈r :: (A++e :: B)) (lnk (unl (setDv f e (.slice (some ⟨g,0,none⟩) 512 cap)) e) e r)->But (fun y=>y∈r :: (A++e :: B)) w1 w2->w2.ownsMap Tryz.prog 3 ptrElem mp n D/\Cab w2 c p room r mp hi mi/\(∃f' Z',Ca X w2 c p room r mp n hi mi (A++B++[e]) f' Z'/\(∀y,(f' y).at_=(f y).at_)/\Z' e=zs/\∀y,y≠e->Z' y=Z y)/\But X w w2/\Own w2 g 512 cap zs):=fun w2 h2 b2=>by
  have b12:But (fun y=>y∈r :: (A++e :: B)) w w2:=(b1.mono (fun y _ q=>by rw[q];exact heV)).trans b2
  have hm2:=ownsMap_keep hm (b12.block mp hml hVm)
  have hc2:Cab w2 c p room r mp hi mi:=(b12.block c hcl hVc).trans h.blk
  have hae:∀y,(lnk (unl (setDv f e (.slice (some ⟨g,0,none⟩) 512 cap)) e) e r y).at_=(f y).at_:=fun y=>by rw[(lnk_same _ _ _ _).1,(unl_same _ _ _).1,(setDv_same _ _ _ _).1]
  have hde:∀y,(lnk (unl (setDv f e (.slice (some ⟨g,0,none⟩) 512 cap)) e) e r y).dv=(setDv f e (.slice (some ⟨g,0,none⟩) 512 cap) y).dv:=fun y=>by rw[(lnk_same _ _ _ _).2,(unl_same _ _ _).2]
  have mem:∀y,y∈A++B++[e] ↔ y∈A++e :: B:=fun y=>by
   simp only[List.mem_append,List.mem_cons,or_false,List.not_mem_nil]
   constructor <;> (intro q;rcases q with q | q) <;> first | (rcases q with q | q <;> simp[q]) | simp[q]
  have t5:∀g' cap' zs',Own w g' 512 cap' zs'->Own w2 g' 512 cap' zs':=fun g' cap' zs' ho=>ho.keep (b12.block g' ho.lt (fun hv=>by
   obtain⟨cur,hk⟩:=ho.kind
   have:=h.ens g' hv
   unfold EnB at this
   rw[hk]at this
   cases this))
  refine⟨hm2,hc2,⟨_,fun y=>if y=e then zs else Z y,⟨hc2,fun y hy=>h2 y ?_,r2.lnk nen,⟨D,hm2,hD.congr mem (by simp) (fun y _=>hae y)⟩,fun y hy=>?_,h.xc,h.xm,fun y hy=>h.xe y ?_⟩,hae,if_pos rfl,fun y hy=>if_neg hy⟩,b12.mono (fun y _ hy=>h.xe y hy),t5 g cap zs hO⟩
  ·rcases List.mem_cons.1 hy with q | q
   ·rw[q];simp
   ·exact List.mem_cons_of_mem _ ((mem y).1 q)
  ·by_cases q:y=e
   ·subst q
    exact⟨g,cap,by rw[hde,setDv_at],by show Own w2 g 512 cap (if y=y then zs else Z y);rw[if_pos rfl];exact t5 g cap zs hO,by show Pl.isB (if y=y then zs else Z y);rw[if_pos rfl];exact hb,hX⟩
   ·obtain⟨g',cap',q1,q2,q3,q4⟩:=h.dat y ((mem y).1 hy)
    exact⟨g',cap',by rw[hde,setDv_ne f _ q];exact q1,by show Own w2 g' 512 cap' (if y=e then zs else Z y);rw[if_neg q];exact t5 g' cap' _ q2,by show Pl.isB (if y=e then zs else Z y);rw[if_neg q];exact q3,q4⟩
  ·rcases List.mem_cons.1 hy with q | q
   ·rw[q];simp
   ·exact List.mem_cons_of_mem _ ((mem y).1 q)
 have hsz:=hD.size
 generalize (f e).at_=x at *
 generalize (f e).dv=od at *
 clear h1 r1 r2 m1 m2 cb1 b1 hbf haf hbr h hD hO
 go_enter Tryz.func178,Tryz.ntmps178
 go_wp2_with (at_lookup;refine wpList_lookup_own_ok _ rfl _ _ 192 rfl 3 191 law3 Tryz.underlying192 ptrElem (zero45 _) .nil [] rfl mp n D rfl hm _ _ rfl hkey ?_;intro v ps hv;rw[hatk .nil]at hv;obtain rfl:=ptrElem_inv hv;rw[hhas])
 rw[<- hw1]
 refine Calls.mono HML.out ?_
 rintro q w2 ⟨rfl,h2,b2⟩
 obtain⟨hm2,hc2,hca,hbx,hox⟩:=HF.out w2 h2 b2
 obtain⟨y0,y1,y2,y3,y4,y5⟩:=hc2.cells
 have hlen:=fun ty=>World.ownsMap.len hm2 Tryz.underlying192 ty
 have hlend:=fun ty=>World.ownsMap.len (ownsMap_keep (w':=w2.drew) hm2 rfl) Tryz.underlying192 ty
 rw[hsz]at hlen hlend
 generalize (A++e :: B).length=ln at *
 have hnr:¬((room:Int)<(ln:Int)):=by omega
 have FIN:=hid (And.intro hca (And.intro hbx hox))
 clear HML HF h2 b2 hca hbx hox hc2 hm2 x0 x1 x2 x3 x4 x5 e1c e1f hhas hatk
 go_wp2_with fail
 go_region
 all_goals go_wp2
 all_goals
  go_end0
  obtain⟨f',Z',q1,q2⟩:=FIN.out.1
  exact⟨rfl,⟨f',Z',q1.drew,q2⟩,FIN.out.2.1.drew,FIN.out.2.2⟩
open Go.RowKit Go.ChangeMaps
theorem ownsMap_tight{D:DataW Nat}(h:w.ownsMap Tryz.prog 3 ptrElem mp n D):w.ownsMap Tryz.prog 3 ptrElem mp (Maps.size D) D:=by
 obtain⟨es,ck,h1,h2,h3,rfl⟩:=h
 exact⟨es,ck,h1,h2,by simp[Maps.size,length_sorted],rfl⟩
theorem Ca.tight{c room:Nat}{Z:Nat->List Int}(h:Ca X w c p room r mp n hi mi es f Z):Ca X w c p room r mp es.length hi mi es f Z:=by
 obtain⟨D,hm,hD⟩:=h.map
 refine⟨h.blk,h.ens,h.ring,⟨D,?_,hD⟩,h.dat,h.xc,h.xm,h.xe⟩
 rw[<- hD.size]
 exact ownsMap_tight hm
theorem Ca.mono{c room:Nat}{Z:Nat->List Int}(h:Ca X w c p room r mp n hi mi es f Z)(hX:∀k,k<w.heap.size->X k->Y k):Ca Y w c p room r mp n hi mi es f Z:=by
 obtain⟨D,hm,hD⟩:=h.map
 exact⟨h.blk,h.ens,h.ring,h.map,fun e he=>by
  obtain⟨g,cap,q1,q2,q3,q4⟩:=h.dat e he
  exact⟨g,cap,q1,q2,q3,hX g q2.lt q4⟩,hX c h.blk.lt h.xc,hX mp (ownsMap_lt hm) h.xm,fun x hx=>hX x (h.ens x hx).lt (h.xe x hx)⟩
theorem Own.ne_ent{g cap:Nat}(ho:Own w g n cap zs){e:En}(hx:EnB w x e):g≠x:=fun q=>by
 obtain⟨cur,hk⟩:=ho.kind
 unfold EnB at hx
 rw[<- q,hk]at hx
 cases hx
theorem Own.ne_map{g cap:Nat}{D:DataW Nat}(ho:Own w g n cap zs)(hm:w.ownsMap Tryz.prog 3 ptrElem mp m D):g≠mp:=fun q=>by
 obtain⟨cur,hk⟩:=ho.kind
 obtain⟨es,ck,h1,_⟩:=hm
 rw[<- q,hk]at h1
 cases h1
theorem letGo_first{c room:Nat}{B:List Nat}{Z:Nat->List Int}(h:Ca X w c p room r mp n hi mi (e :: B) f Z)(hat:(Lit.int .i64 (f e).at_).wf=true) :
  Calls Tryz.prog 196 #[.pointer (some ⟨c,0,none⟩),.pointer (some ⟨e,0,none⟩)] w fun q w'=>q=.returned (.tuple #[])/\Ca X w' c p room r mp n hi mi B (unl f e) Z/\But X w w'/\∀g n cap zs,Own w g n cap zs->Own w' g n cap zs:=by
 obtain⟨D,hm,hD⟩:=h.map
 obtain⟨r2,m1,m2⟩:=Rg.unl (A:=[]) h.ring
 have hnd:=h.ring.1
 have hn:e ∉ B:=(List.nodup_cons.1 (List.nodup_cons.1 hnd).2).1
 have hb:(f e).bf∈r :: e :: B:=by rcases m1 with q | q;rw[q];simp;simp at q
 have ha:(f e).af∈r :: e :: B:=by rcases m2 with q | q;rw[q];simp;simp[q]
 refine Calls.mono (letGo_any h.blk h.ens (by simp) hb ha hm hD hn hat) ?_
 rintro q w' ⟨rfl,h1,⟨D',hm',hD'⟩,b1⟩
 have hVc:¬c∈r :: e :: B:=fun hv=>h.blk.ne_ent (h.ens c hv) rfl
 refine⟨rfl,⟨(b1.block c h.blk.lt (fun q=>?_)).trans h.blk,fun x hx=>h1 x ?_,r2,⟨D',hm',hD'⟩,fun y hy=>?_,h.xc,h.xm,fun x hx=>h.xe x ?_⟩,b1.mono (fun x _ hx=>?_),fun g n cap zs ho=>ho.keep (b1.block g ho.lt (fun q=>?_))⟩
 ·rcases q with q | q
  ·exact hVc q
  ·exact h.blk.ne_map hm q
 ·simp at hx ⊢
  rcases hx with q | q
  ·exact .inl q
  ·exact .inr (.inr q)
 ·obtain⟨g,cap,q1,q2,q3,q4⟩:=h.dat y (by simp[hy])
  refine⟨g,cap,by rw[(unl_same f e y).2];exact q1,q2.keep (b1.block g q2.lt (fun q=>?_)),q3,q4⟩
  rcases q with q | q
  ·exact q2.ne_ent (h.ens g q) rfl
  ·exact q2.ne_map hm q
 ·simp at hx ⊢
  rcases hx with q | q
  ·exact .inl q
  ·exact .inr (.inr q)
 ·rcases hx with q | q
  ·exact h.xe x q
  ·rw[q];exact h.xm
 ·rcases q with q | q
  ·exact ho.ne_ent (h.ens g q) rfl
  ·exact ho.ne_map hm q
def newE (f:Nat->En) (e:Nat) (x:Int) (v:Value) (z:Nat):En:=if z=e then ⟨x,v,e,e⟩ else f z
theorem newE_at(f:Nat->En)(e:Nat)(x:Int)(v:Value):newE f e x v e=⟨x,v,e,e⟩:=if_pos rfl
theorem newE_ne(f:Nat->En)(x:Int)(v:Value)(h:z≠e):newE f e x v z=f z:=if_neg h
theorem Ca.grow {c room:Nat} {Z:Nat->List Int} {D:DataW Nat} (h:Ca X w c p room r mp n hi mi es f Z) {x:Int} (hx:∀e∈es,(f e).at_≠x) {g cap:Nat} (hO:Own w g 512 cap zs) (hb:Pl.isB zs) (hX:X g)
  (hm:w.ownsMap Tryz.prog 3 ptrElem mp n D) (hD:BM D es f)
  (e1:EnB w1 w.heap.size ⟨x,.slice none 0 0,w.heap.size,w.heap.size⟩) (b1:Below w.heap.size w w1) (s1:w1.heap.size=w.heap.size+1)
  (m2:w2.ownsMap Tryz.prog 3 ptrElem mp (n+1) (D.put (.int .i64 x) (.held w.heap.size))) (t2:w1.mapTurned w2 mp) (h3:w3=w2.setCell ⟨w.heap.size,1,none⟩ (.slice (some ⟨g,0,none⟩) 512 cap)) :
  Ens w3 (fun y=>y∈r :: (es++[w.heap.size])) (newE f w.heap.size x (.slice (some ⟨g,0,none⟩) 512 cap))/\Cab w3 c p room r mp hi mi/\EnB w2 w.heap.size ⟨x,.slice none 0 0,w.heap.size,w.heap.size⟩/\Cab w2 c p room r mp hi mi/\(∀w4,Ens w4 (fun y=>y∈r :: (es++[w.heap.size])) (lnk (unl (newE f w.heap.size x (.slice (some ⟨g,0,none⟩) 512 cap)) w.heap.size) w.heap.size r)->But (fun y=>y∈r :: (es++[w.heap.size])) w3 w4->But X w w4/\Own w4 g 512 cap zs/\∃f' Z',Ca (fun k=>X k\/k=w.heap.size) w4 c p room r mp (n+1) hi mi (es++[w.heap.size]) f' Z'/\f'=lnk (newE f w.heap.size x (.slice (some ⟨g,0,none⟩) 512 cap)) w.heap.size r/\Z' w.heap.size=zs/\∀y,y≠w.heap.size->Z' y=Z y):=by
 have hml:=ownsMap_lt hm
 have b2:=turned_but t2
 have hcl:=h.blk.lt
 have ncm:c≠mp:=h.blk.ne_map hm
 have hVl:∀y,y∈r :: es->y<w.heap.size:=fun y hy=>(h.ens y hy).lt
 have hVm:∀y,y∈r :: es->y≠mp:=fun y hy=>ent_ne_map hm (h.ens y hy)
 have hVc:∀y,y∈r :: es->y≠c:=fun y hy=>h.blk.ne_ent (h.ens y hy)
 have nen:w.heap.size ∉ r :: es:=fun hy=>Nat.lt_irrefl _ (hVl _ hy)
 have k12:∀y,y<w.heap.size->y≠mp->w2.heap[y]?=w.heap[y]?:=fun y hy hn=>(b2.block y (by omega) hn).trans (b1.block y hy)
 have ke2:EnB w2 w.heap.size ⟨x,.slice none 0 0,w.heap.size,w.heap.size⟩:=(b2.block w.heap.size (by omega) (by omega)).trans e1
 have b23:But (fun y=>y=w.heap.size) w2 w3:=by rw[h3];exact (But.refl (fun y=>y=w.heap.size) w2).setCell (p:=⟨w.heap.size,1,none⟩) (show (fun y=>y=w.heap.size) w.heap.size from rfl) _
 have s2:=b2.size
 have k3:∀y,y<w.heap.size->y≠mp->w3.heap[y]?=w.heap[y]?:=fun y hy hn=>(b23.block y (by omega) (by omega)).trans (k12 y hy hn)
 have hc2:Cab w2 c p room r mp hi mi:=(k12 c hcl ncm).trans h.blk
 have hc3:Cab w3 c p room r mp hi mi:=(k3 c hcl ncm).trans h.blk
 have h3e:Ens w3 (fun y=>y∈r :: (es++[w.heap.size])) (newE f w.heap.size x (.slice (some ⟨g,0,none⟩) 512 cap)):=fun y hy=>by
  by_cases q:y=w.heap.size
  ·subst q
   rw[newE_at,h3]
   unfold EnB
   simpa using ke2.set 1 (.slice (some ⟨g,0,none⟩) 512 cap)
  ·have hy':y∈r :: es:=by simpa [q] using hy
   rw[newE_ne f _ _ q]
   exact (k3 y (hVl y hy') (hVm y hy')).trans (h.ens y hy')
 refine⟨h3e,hc3,ke2,hc2,fun w4 h4 b4=>?_⟩
 have hua:unl (newE f w.heap.size x (.slice (some ⟨g,0,none⟩) 512 cap)) w.heap.size=newE f w.heap.size x (.slice (some ⟨g,0,none⟩) 512 cap):=unl_alone (by rw[newE_at]) (by rw[newE_at])
 rw[hua]at h4
 have r3:Rg (newE f w.heap.size x (.slice (some ⟨g,0,none⟩) 512 cap)) r es:=h.ring.congr (fun y hy=>by
  have hyn:y≠w.heap.size:=fun q=>nen (by rw[<- q];exact hy)
  rw[newE_ne f _ _ hyn]
  exact⟨rfl,rfl⟩)
 have s3:=b23.size
 have k4:∀y,y<w.heap.size->y≠mp->y ∉ r :: es->w4.heap[y]?=w.heap[y]?:=fun y hy hn hv=>(b4.block y (by omega) (fun q=>by
  rcases List.mem_cons.1 q with q | q
  ·exact hv (by simp[q])
  ·rcases List.mem_append.1 q with q | q
   ·exact hv (by simp[q])
   ·simp at q;omega)).trans (k3 y hy hn)
 have m4:w4.ownsMap Tryz.prog 3 ptrElem mp (n+1) (D.put (.int .i64 x) (.held w.heap.size)):=ownsMap_keep m2 ((b4.block mp (by omega) (fun q=>by
  rcases List.mem_cons.1 q with q | q
  ·exact hVm r (by simp) q.symm
  ·rcases List.mem_append.1 q with q | q
   ·exact hVm mp (by simp[q]) rfl
   ·simp at q;omega)).trans (b23.block mp (by omega) (by omega)))
 have hat:∀y,(lnk (newE f w.heap.size x (.slice (some ⟨g,0,none⟩) 512 cap)) w.heap.size r y).at_=(newE f w.heap.size x (.slice (some ⟨g,0,none⟩) 512 cap) y).at_:=fun y=>(lnk_same _ _ _ _).1
 have hdv:∀y,(lnk (newE f w.heap.size x (.slice (some ⟨g,0,none⟩) 512 cap)) w.heap.size r y).dv=(newE f w.heap.size x (.slice (some ⟨g,0,none⟩) 512 cap) y).dv:=fun y=>(lnk_same _ _ _ _).2
 have t5:∀g' cap' zs',Own w g' 512 cap' zs'->Own w4 g' 512 cap' zs':=fun g' cap' zs' ho=>ho.keep (k4 g' ho.lt (ho.ne_map hm) (fun hv=>ho.ne_ent (h.ens g' hv) rfl))
 have hDn:BM D es (newE f w.heap.size x (.slice (some ⟨g,0,none⟩) 512 cap)):=hD.congr (fun _=>Iff.rfl) rfl (fun y hy=>by rw[newE_ne f _ _ (fun q=>nen (by simp[<- q,hy]))])
 have hDp:=hDn.put (e:=w.heap.size) (fun y hy=>by rw[newE_at,newE_ne f _ _ (fun q=>nen (by simp[<- q,hy]))];exact hx y hy)
 rw[newE_at]at hDp
 refine⟨⟨by rw[b4.os,b23.os,b2.os,b1.os],by rw[b4.tape,b23.tape,b2.tape,b1.tape],by rw[b4.output,b23.output,b2.output,b1.output],by have:=b4.size;omega,fun k hk hnx=>k4 k hk (fun q=>hnx (by rw[q];exact h.xm)) (fun q=>hnx (h.xe k q))⟩,t5 g cap zs hO,_,fun y=>if y=w.heap.size then zs else Z y,⟨?_,h4,r3.lnk nen,⟨_,m4,hDp.congr (fun _=>Iff.rfl) rfl (fun y _=>hat y)⟩,fun y hy=>?_,.inl h.xc,.inl h.xm,fun y hy=>?_⟩,rfl,if_pos rfl,fun y hy=>if_neg hy⟩
 ·exact (k4 c hcl ncm (fun q=>hVc c q rfl)).trans h.blk
 ·by_cases q:y=w.heap.size
  ·subst q
   exact⟨g,cap,by rw[hdv,newE_at],by simpa using t5 g cap zs hO,by simpa using hb,.inl hX⟩
  ·have hy':y∈es:=by simpa [q] using hy
   obtain⟨g',cap',q1,q2,q3,q4⟩:=h.dat y hy'
   exact⟨g',cap',by rw[hdv,newE_ne f _ _ q];exact q1,by simpa [q] using t5 g' cap' _ q2,by simpa [q] using q3,.inl q4⟩
 ·by_cases q:y=w.heap.size
  ·exact .inr q
  ·exact .inl (h.xe y (by simpa [q] using hy))
end Go.Proofs.YthfojpcibnfmgaaGreat
