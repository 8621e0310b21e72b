import Derived.Test.YtlefjidbpjkhlaaGreatK02
import Derived.Deep.RegionHeld3
set_option maxRecDepth 100000
set_option maxHeartbeats 16000000
namespace Go.Proofs.YtlefjidbpjkhlaaGreat
variable {w w':World}
variable {b c e mp n p r x y:Nat}
variable {V X:Nat->Prop}
variable {es:List Nat}
variable {v:Value}
variable {hi mi:Int}
variable {zs:List Int}
open Go.RowKit
structure En where
 at_:Int
 dv:Value
 bf:Nat
 af:Nat
def EnB (w:World) (x:Nat) (e:En):Prop:=w.heap[x]?=some (.cells #[.int .i64 e.at_,e.dv,.pointer (some ⟨e.bf,0,none⟩),.pointer (some ⟨e.af,0,none⟩)] 257 (0,0))
theorem EnB.lt{e:En}(h:EnB w x e):x<w.heap.size:=(Array.getElem?_eq_some_iff.1 h).1
theorem EnB.cell{e:En}(h:EnB w x e)(t:Nat):w.cell? ⟨x,t,none⟩=#[Value.int .i64 e.at_,e.dv,.pointer (some ⟨e.bf,0,none⟩),.pointer (some ⟨e.af,0,none⟩)][t]?:=by
 unfold EnB at h
 simp[World.cell?,h]
theorem EnB.frozen{e:En}(h:EnB w x e)(t:Nat):w.frozen? ⟨x,t,none⟩=false:=by
 unfold EnB at h
 simp[World.frozen?,h]
theorem EnB.set{e:En}(h:EnB w x e)(t:Nat)(v:Value):(w.setCell ⟨x,t,none⟩ v).heap[x]?=some (.cells (#[.int .i64 e.at_,e.dv,.pointer (some ⟨e.bf,0,none⟩),.pointer (some ⟨e.af,0,none⟩)].setIfInBounds t v) 257 (0,0)):=by
 unfold EnB at h
 simp only[World.setCell,Array.getElem?_modify]
 rw[h]
 simp
def Ens (w:World) (V:Nat->Prop) (f:Nat->En):Prop:=∀x,V x->EnB w x (f x)
def setAf (f:Nat->En) (x y:Nat) (z:Nat):En:=if z=x then { f x with af:=y } else f z
def setBf (f:Nat->En) (x y:Nat) (z:Nat):En:=if z=x then { f x with bf:=y } else f z
def setDv (f:Nat->En) (x:Nat) (v:Value) (z:Nat):En:=if z=x then { f x with dv:=v } else f z
theorem setAf_at(f:Nat->En)(x y:Nat):setAf f x y x={ f x with af:=y }:=if_pos rfl
theorem setAf_ne(f:Nat->En){z:Nat}(h:z≠x):setAf f x y z=f z:=if_neg h
theorem setBf_at(f:Nat->En)(x y:Nat):setBf f x y x={ f x with bf:=y }:=if_pos rfl
theorem setBf_ne(f:Nat->En){z:Nat}(h:z≠x):setBf f x y z=f z:=if_neg h
theorem setAf_bf(f:Nat->En)(x y z:Nat):(setAf f x y z).bf=(f z).bf:=by unfold setAf;split <;> simp_all
theorem setBf_af(f:Nat->En)(x y z:Nat):(setBf f x y z).af=(f z).af:=by unfold setBf;split <;> simp_all
theorem setAf_at_(f:Nat->En)(x y z:Nat):(setAf f x y z).at_=(f z).at_/\(setAf f x y z).dv=(f z).dv:=by unfold setAf;split <;> simp_all
theorem setBf_at_(f:Nat->En)(x y z:Nat):(setBf f x y z).at_=(f z).at_/\(setBf f x y z).dv=(f z).dv:=by unfold setBf;split <;> simp_all
theorem setAf_af(f:Nat->En)(x y z:Nat):(setAf f x y z).af=if z=x then y else (f z).af:=by unfold setAf;split <;> rfl
theorem setBf_bf(f:Nat->En)(x y z:Nat):(setBf f x y z).bf=if z=x then y else (f z).bf:=by unfold setBf;split <;> rfl
theorem Ens.setA{f:Nat->En}(h:Ens w V f)(hx:V x)(y:Nat):Ens (w.setCell ⟨x,3,none⟩ (.pointer (some ⟨y,0,none⟩))) V (setAf f x y):=fun z hz=>by
 by_cases e:z=x
 ·subst e
  rw[setAf_at]
  unfold EnB
  simpa using (h z hz).set 3 (.pointer (some ⟨y,0,none⟩))
 ·rw[setAf_ne f e]
  exact (Below.heap_setCell _ _ _ _ e).trans (h z hz)
theorem Ens.setB{f:Nat->En}(h:Ens w V f)(hx:V x)(y:Nat):Ens (w.setCell ⟨x,2,none⟩ (.pointer (some ⟨y,0,none⟩))) V (setBf f x y):=fun z hz=>by
 by_cases e:z=x
 ·subst e
  rw[setBf_at]
  unfold EnB
  simpa using (h z hz).set 2 (.pointer (some ⟨y,0,none⟩))
 ·rw[setBf_ne f e]
  exact (Below.heap_setCell _ _ _ _ e).trans (h z hz)
theorem Ens.setD{f:Nat->En}(h:Ens w V f)(hx:V x)(v:Value):Ens (w.setCell ⟨x,1,none⟩ v) V (setDv f x v):=fun z hz=>by
 by_cases e:z=x
 ·subst e
  unfold setDv
  rw[if_pos rfl]
  unfold EnB
  simpa using (h z hz).set 1 v
 ·unfold setDv
  rw[if_neg e]
  exact (Below.heap_setCell _ _ _ _ e).trans (h z hz)
/-! ### the ring -/
def Lk (f:Nat->En):List Nat->Prop
 | []=>True
 | [_]=>True
 | x :: y :: t=>(f x).af=y/\(f y).bf=x/\Lk f (y :: t)
theorem Lk_app(f:Nat->En)(x:Nat)(B:List Nat):∀A:List Nat,Lk f (A++x :: B) ↔ Lk f (A++[x])/\Lk f (x :: B)
 | []=>by simp[Lk]
 | [a]=>by simp[Lk];exact⟨fun⟨h1,h2,h3⟩=>⟨⟨h1,h2⟩,h3⟩,fun⟨⟨h1,h2⟩,h3⟩=>⟨h1,h2,h3⟩⟩
 | a :: b :: t=>by
  have ih:=Lk_app f x B (b :: t)
  simp only[List.cons_append,Lk]at ih ⊢
  rw[ih]
  exact⟨fun⟨h1,h2,h3,h4⟩=>⟨⟨h1,h2,h3⟩,h4⟩,fun⟨⟨h1,h2,h3⟩,h4⟩=>⟨h1,h2,h3,h4⟩⟩
theorem Lk.congr{f g:Nat->En}:∀ {l:List Nat},Lk f l->(∀x∈l.dropLast,(g x).af=(f x).af)->(∀y∈l.tail,(g y).bf=(f y).bf)->Lk g l
 | [],_,_,_=>trivial
 | [_],_,_,_=>trivial
 | x :: y :: t,h,ha,hb=>by
  obtain⟨h1,h2,h3⟩:=h
  refine⟨(ha x (by simp)).trans h1,(hb y (by simp)).trans h2,h3.congr (fun z hz=>ha z ?_) (fun z hz=>hb z ?_)⟩
  ·simp only[List.dropLast_cons_cons,List.mem_cons]
   exact .inr hz
  ·simp only[List.tail_cons]at hz ⊢
   exact List.mem_cons_of_mem _ hz
def Rg (f:Nat->En) (r:Nat) (es:List Nat):Prop:=(r :: es).Nodup/\Lk f (r :: es++[r])
def unl (f:Nat->En) (e:Nat):Nat->En:=setBf (setAf f (f e).bf (f e).af) (f e).af (f e).bf
def lnk (f:Nat->En) (e n:Nat):Nat->En:=setBf (setAf (setAf (setBf f e (f n).bf) e n) (f n).bf e) n e
theorem unl_same(f:Nat->En)(e z:Nat):(unl f e z).at_=(f z).at_/\(unl f e z).dv=(f z).dv:=by
 unfold unl
 exact⟨(setBf_at_ _ _ _ _).1.trans (setAf_at_ _ _ _ _).1,(setBf_at_ _ _ _ _).2.trans (setAf_at_ _ _ _ _).2⟩
theorem lnk_same(f:Nat->En)(e n z:Nat):(lnk f e n z).at_=(f z).at_/\(lnk f e n z).dv=(f z).dv:=by
 unfold lnk
 exact⟨(setBf_at_ _ _ _ _).1.trans ((setAf_at_ _ _ _ _).1.trans ((setAf_at_ _ _ _ _).1.trans (setBf_at_ _ _ _ _).1)),(setBf_at_ _ _ _ _).2.trans ((setAf_at_ _ _ _ _).2.trans ((setAf_at_ _ _ _ _).2.trans (setBf_at_ _ _ _ _).2))⟩
theorem unl_af(f:Nat->En)(e z:Nat):(unl f e z).af=if z=(f e).bf then (f e).af else (f z).af:=by unfold unl;rw[setBf_af,setAf_af]
theorem unl_bf(f:Nat->En)(e z:Nat):(unl f e z).bf=if z=(f e).af then (f e).bf else (f z).bf:=by unfold unl;rw[setBf_bf,setAf_bf]
theorem lnk_af(f:Nat->En)(e n z:Nat):(lnk f e n z).af=if z=(f n).bf then e else if z=e then n else (f z).af:=by unfold lnk;rw[setBf_af,setAf_af,setAf_af,setBf_af]
theorem lnk_bf(f:Nat->En)(e n z:Nat):(lnk f e n z).bf=if z=n then e else if z=e then (f n).bf else (f z).bf:=by unfold lnk;rw[setBf_bf,setAf_bf,setAf_bf,setBf_bf]
open Go.RowKit
theorem last_form:∀(r:Nat) (A:List Nat),∃P' p,r :: A=P'++[p]
 | r,[]=>⟨[],r,rfl⟩
 | r,a :: t=>by
  obtain⟨P,p,h⟩:=last_form a t
  exact⟨r :: P,p,by rw[h];rfl⟩
theorem Rg.unl{f:Nat->En}{A B:List Nat}(h:Rg f r (A++e :: B)):Rg (unl f e) r (A++B)/\((f e).bf=r\/(f e).bf∈A)/\((f e).af=r\/(f e).af∈B):=by
 obtain⟨hn,hl⟩:=h
 obtain⟨P',p,hP⟩:=last_form r A
 obtain⟨a,S',hS⟩:∃a S',B++[r]=a :: S':=by
  cases B with
  | nil=>exact⟨r,[],rfl⟩
  | cons x t=>exact⟨x,t++[r],rfl⟩
 have e1:r :: (A++e :: B)++[r]=P'++p :: (e :: (a :: S')):=by
  rw[<- hS]
  have:r :: (A++e :: B)++[r]=(r :: A)++(e :: (B++[r])):=by simp
  rw[this,hP]
  simp
 rw[e1,Lk_app]at hl
 obtain⟨l1,h1,h2,h3,h4,l3⟩:=hl
 have hn2:((r :: A)++e :: B).Nodup:=by simpa using hn
 obtain⟨n1,n2,n3⟩:=List.nodup_append.1 hn2
 have nB:B.Nodup:=(List.nodup_cons.1 n2).2
 have hrA:r ∉ A:=(List.nodup_cons.1 n1).1
 have hpm:p∈r :: A:=by rw[hP];simp
 have hpP:p ∉ P':=by
  rw[hP]at n1
  intro hp
  exact (List.nodup_append.1 n1).2.2 p hp p (by simp) rfl
 have hpB:p ∉ B:=fun hp=>n3 p hpm p (by simp[hp]) rfl
 have haB:a=r\/a∈B:=by
  cases B with
  | nil=>simp at hS;exact .inl hS.1.symm
  | cons x t=>simp at hS;exact .inr (by simp[hS.1])
 have haA:a ∉ A:=by
  rcases haB with e | e
  ·rw[e];exact hrA
  ·exact fun ha=>n3 a (by simp[ha]) a (by simp[e]) rfl
 have haS:a ∉ S':=by
  cases B with
  | nil=>simp at hS;simp[hS.2]
  | cons x t=>
   simp at hS
   obtain⟨rfl,rfl⟩:=hS
   simp only[List.mem_append,List.mem_singleton,not_or]
   exact⟨(List.nodup_cons.1 nB).1,fun e=>n3 r (by simp) r (by simp[e]) rfl⟩
 have hdl:(a :: S').dropLast=B:=by rw[<- hS];simp
 refine⟨⟨?_,?_⟩,?_,?_⟩
 ·have:(r :: (A++B)).Nodup:=by
   have h5:((r :: A)++B).Nodup:=List.nodup_append.2 ⟨n1,nB,fun x hx y hy=>n3 x hx y (by simp[hy])⟩
   simpa using h5
  exact this
 ·have e2:r :: (A++B)++[r]=P'++p :: (a :: S'):=by
   rw[<- hS]
   have:r :: (A++B)++[r]=(r :: A)++(B++[r]):=by simp
   rw[this,hP]
   simp
  rw[e2,Lk_app]
  refine⟨l1.congr (fun x hx=>?_) (fun y hy=>?_),?_,?_,l3.congr (fun x hx=>?_) (fun y hy=>?_)⟩
  ·rw[unl_af,h2,if_neg (fun e=>hpP (by simp at hx;rw[<- e];exact hx))]
  ·rw[unl_bf,h3,if_neg (fun e=>haA (by rw[<- hP]at hy;simp at hy;rw[<- e];exact hy))]
  ·rw[unl_af,h2,if_pos rfl,h3]
  ·rw[unl_bf,h3,if_pos rfl,h2]
  ·rw[unl_af,h2,if_neg (fun e=>hpB (by rw[hdl]at hx;rw[<- e];exact hx))]
  ·rw[unl_bf,h3,if_neg (fun e=>haS (by simp at hy;rw[<- e];exact hy))]
 ·rw[h2];simpa using hpm
 ·rw[h3];exact haB
theorem Rg.lnk{f:Nat->En}{M:List Nat}(h:Rg f r M)(he:e ∉ r :: M):Rg (lnk f e r) r (M++[e]):=by
 obtain⟨hn,hl⟩:=h
 obtain⟨Q',z,hQ⟩:=last_form r M
 have e1:r :: M++[r]=Q'++z :: [r]:=by
  have:r :: M++[r]=(r :: M)++[r]:=rfl
  rw[this,hQ]
  simp
 rw[e1,Lk_app]at hl
 obtain⟨l1,h1,h2,_⟩:=hl
 have hrM:r ∉ M:=(List.nodup_cons.1 hn).1
 have hzm:z∈r :: M:=by rw[hQ];simp
 have hze:e≠z:=fun e=>he (by rw[e];exact hzm)
 have her:e≠r:=fun e=>he (by simp[e])
 have hzQ:z ∉ Q':=by
  rw[hQ]at hn
  intro hz
  exact (List.nodup_append.1 hn).2.2 z hz z (by simp) rfl
 refine⟨?_,?_⟩
 ·have h5:((r :: M)++[e]).Nodup:=List.nodup_append.2 ⟨hn,by simp,fun x hx y hy=>by simp at hy;rw[hy];exact fun e=>he (by rw[<- e];exact hx)⟩
  simpa using h5
 ·have e2:r :: (M++[e])++[r]=Q'++z :: (e :: [r]):=by
   have:r :: (M++[e])++[r]=(r :: M)++[e,r]:=by simp
   rw[this,hQ]
   simp
  rw[e2,Lk_app]
  refine⟨l1.congr (fun x hx=>?_) (fun y hy=>?_),?_,?_,?_,?_,trivial⟩
  ·have hxQ:x∈Q':=by simpa using hx
   rw[lnk_af,h2,if_neg (fun e=>hzQ (by rw[<- e];exact hxQ)),if_neg (fun e=>he (by rw[hQ,<- e];simp[hxQ]))]
  ·rw[<- hQ]at hy
   have hyM:y∈M:=by simpa using hy
   rw[lnk_bf,if_neg (fun e=>hrM (by rw[<- e];exact hyM)),if_neg (fun e=>he (by rw[<- e];simp[hyM]))]
  ·rw[lnk_af,h2,if_pos rfl]
  ·rw[lnk_bf,if_neg her,if_pos rfl,h2]
  ·rw[lnk_af,h2,if_neg hze,if_pos rfl]
  ·rw[lnk_bf,if_pos rfl]
theorem unl_alone{f:Nat->En}(h1:(f e).bf=e)(h2:(f e).af=e):unl f e=f:=by
 funext z
 unfold unl
 rw[h1,h2]
 by_cases hz:z=e
 ·subst hz
  rw[setBf_at,setAf_at]
  cases hf:f z with
  | mk a d b c=>rw[hf]at h1 h2;simp_all
 ·rw[setBf_ne _ hz,setAf_ne _ hz]
theorem Rg.first{f:Nat->En}{B:List Nat}(h:Rg f r (e :: B)):(f r).af=e:=h.2.1
theorem Rg.congr{f g:Nat->En}(h:Rg f r es)(hg:∀x∈r :: es,(g x).af=(f x).af/\(g x).bf=(f x).bf):Rg g r es :=
 ⟨h.1,h.2.congr (fun x hx=>(hg x (by rw[show r :: es++[r]=(r :: es)++[r] from rfl,List.dropLast_concat]at hx;exact hx)).1) (fun y hy=>(hg y (by simp at hy;rcases hy with hy | hy;exact List.mem_cons_of_mem _ hy;rw[hy];simp)).2)⟩
open Go.RowKit
theorem EnB.cells{e:En}(h:EnB w x e):w.cell? ⟨x,0,none⟩=some (.int .i64 e.at_)/\w.cell? ⟨x,1,none⟩=some e.dv/\w.cell? ⟨x,2,none⟩=some (.pointer (some ⟨e.bf,0,none⟩))/\w.cell? ⟨x,3,none⟩=some (.pointer (some ⟨e.af,0,none⟩)):=⟨h.cell 0,h.cell 1,h.cell 2,h.cell 3⟩
theorem unlink_any{f:Nat->En}(h:Ens w V f)(he:V e)(hb:V (f e).bf)(ha:V (f e).af) :
  Calls Tryz.prog 240 #[.pointer (some ⟨e,0,none⟩)] w fun r w'=>r=.returned (.tuple #[])/\Ens w' V (unl f e)/\But V w w':=by
 obtain⟨_,_,c2,c3⟩:=(h e he).cells
 have x3:=(h _ hb).cells.2.2.2
 have y3:=(h _ hb).frozen 3
 have h1:=h.setA hb (f e).af
 have c2':(w.setCell ⟨(f e).bf,3,none⟩ (.pointer (some ⟨(f e).af,0,none⟩))).cell? ⟨e,2,none⟩=some (.pointer (some ⟨(f e).bf,0,none⟩)):=by
  have:=(h1 e he).cells.2.2.1
  rw[setAf_bf]at this
  exact this
 have c3':(w.setCell ⟨(f e).bf,3,none⟩ (.pointer (some ⟨(f e).af,0,none⟩))).cell? ⟨e,3,none⟩=some (.pointer (some ⟨(f e).af,0,none⟩)):=by
  have:=(h1 e he).cells.2.2.2
  rw[setAf_af]at this
  split at this <;> exact this
 have x2:=(h1 _ ha).cells.2.2.1
 have y2:=(h1 _ ha).frozen 2
 have FIN:=hid (And.intro (h1.setB ha (f e).bf) (((But.refl V w).setCell (p:=⟨(f e).bf,3,none⟩) hb (.pointer (some ⟨(f e).af,0,none⟩))).setCell (p:=⟨(f e).af,2,none⟩) ha (.pointer (some ⟨(f e).bf,0,none⟩))))
 have FE:Hid (unl f e=setBf (setAf f (f e).bf (f e).af) (f e).af (f e).bf):=rfl
 generalize setAf f (f e).bf (f e).af=f1 at *
 generalize (f1 (f e).af).bf=ob at *
 generalize (f (f e).bf).af=oa at *
 generalize (f e).bf=b at *
 generalize (f e).af=a at *
 clear h h1
 go_enter Tryz.func240,Tryz.ntmps240
 go_wp2_with fail
 go_region
 all_goals go_wp2_with fail
 all_goals go_region
 all_goals go_wp2
 all_goals
  go_end0
  exact⟨rfl,by rw[FE.out];exact FIN.out.1,⟨FIN.out.2.os,FIN.out.2.tape,FIN.out.2.output,FIN.out.2.size,FIN.out.2.block⟩⟩
theorem linkBefore_any{f:Nat->En}(h:Ens w V f)(he:V e)(hn:V n)(hp:V (f n).bf) :
  Calls Tryz.prog 241 #[.pointer (some ⟨e,0,none⟩),.pointer (some ⟨n,0,none⟩)] w fun r w'=>r=.returned (.tuple #[])/\Ens w' V (lnk f e n)/\But V w w':=by
 have c2:=(h n hn).cells.2.2.1
 have x2:=(h e he).cells.2.2.1
 have y2:=(h e he).frozen 2
 have h1:=h.setB he (f n).bf
 have x3:=(h1 e he).cells.2.2.2
 have y3:=(h1 e he).frozen 3
 have h2:=h1.setA he n
 have e2:((w.setCell ⟨e,2,none⟩ (.pointer (some ⟨(f n).bf,0,none⟩))).setCell ⟨e,3,none⟩ (.pointer (some ⟨n,0,none⟩))).cell? ⟨e,2,none⟩=some (.pointer (some ⟨(f n).bf,0,none⟩)):=by
  have:=(h2 e he).cells.2.2.1
  rw[setAf_bf,setBf_bf,if_pos rfl]at this
  exact this
 have p3:=(h2 _ hp).cells.2.2.2
 have z3:=(h2 _ hp).frozen 3
 have h3:=h2.setA hp e
 have n2:=(h3 n hn).cells.2.2.1
 have z2:=(h3 n hn).frozen 2
 have FIN:=hid (And.intro (h3.setB hn e) (((((But.refl V w).setCell (p:=⟨e,2,none⟩) he (.pointer (some ⟨(f n).bf,0,none⟩))).setCell (p:=⟨e,3,none⟩) he (.pointer (some ⟨n,0,none⟩))).setCell (p:=⟨(f n).bf,3,none⟩) hp (.pointer (some ⟨e,0,none⟩))).setCell (p:=⟨n,2,none⟩) hn (.pointer (some ⟨e,0,none⟩))))
 have FE:Hid (lnk f e n=setBf (setAf (setAf (setBf f e (f n).bf) e n) (f n).bf e) n e):=rfl
 generalize setBf f e (f n).bf=f1 at *
 generalize setAf f1 e n=f2 at *
 generalize setAf f2 (f n).bf e=f3 at *
 generalize (f3 n).bf=o3 at *
 generalize (f2 (f n).bf).af=o2 at *
 generalize (f1 e).af=o1 at *
 generalize (f e).bf=o0 at *
 generalize (f n).bf=b at *
 clear h h1 h2 h3
 go_enter Tryz.func241,Tryz.ntmps241
 go_wp2
 go_end0
 exact⟨rfl,by rw[FE.out];exact FIN.out.1,FIN.out.2⟩
theorem alone_any(x:Int)(w:World):Calls Tryz.prog 161 #[.int .i64 x] w fun r w'=>r=.returned (.pointer (some ⟨w.heap.size,0,none⟩))/\EnB w' w.heap.size ⟨x,.slice none 0 0,w.heap.size,w.heap.size⟩/\Below w.heap.size w w'/\w'.heap.size=w.heap.size+1:=by
 have FIN:Hid (EnB (w.alloc (.cells #[.int .i64 x,.slice none 0 0,.pointer (some ⟨w.heap.size,0,none⟩),.pointer (some ⟨w.heap.size,0,none⟩)] 257)) w.heap.size ⟨x,.slice none 0 0,w.heap.size,w.heap.size⟩):=by
  show (w.heap.push _)[w.heap.size]?=_
  simp
 go_enter Tryz.func161,Tryz.ntmps161
 go_wp2
 go_ret
 exact⟨rfl,FIN.out,(Below.refl _ _).alloc (Nat.le_refl _) _,by simp⟩
theorem makeLatest_any{f:Nat->En}(h:Ens w V f)(hc:w.cell? ⟨c,2,none⟩=some (.pointer (some ⟨r,0,none⟩)))(hcV:¬V c)(hcl:c<w.heap.size)(he:V e)(hb:V (f e).bf)(ha:V (f e).af)(hr:V r)(hp:V (unl f e r).bf) :
  Calls Tryz.prog 235 #[.pointer (some ⟨c,0,none⟩),.pointer (some ⟨e,0,none⟩)] w fun q w'=>q=.returned (.tuple #[])/\Ens w' V (lnk (unl f e) e r)/\But V w w':=by
 have HU:=hid (unlink_any h he hb ha)
 clear h
 go_enter Tryz.func235,Tryz.ntmps235
 go_wp2_with fail
 refine Calls.mono HU.out ?_
 rintro q w1 ⟨rfl,h1,b1⟩
 have c2:=(b1.cell (p:=⟨c,2,none⟩) hcl hcV).trans hc
 have HL:=hid (linkBefore_any h1 he hr hp)
 have B1:=hid b1
 clear HU h1 b1
 go_wp2_with fail
 refine Calls.mono HL.out ?_
 rintro q w2 ⟨rfl,h2,b2⟩
 have F:=hid (And.intro h2 (B1.out.trans b2))
 clear HL h2 b2
 go_wp2
 go_end0
 exact⟨rfl,F.out.1,F.out.2⟩
open Go.RowKit
def ptrElem:Value->Option (DataW Nat×List MemPlace)
 | .pointer none=>some (.nil,[])
 | .pointer (some ⟨e,0,none⟩)=>some (.held e,[])
 | _=>none
theorem ptrElem_inv{ps:List MemPlace}(h:ptrElem v=some (.held e,ps)):v=.pointer (some ⟨e,0,none⟩):=by
 unfold ptrElem at h
 split at h
 ·cases h
 ·cases h;rfl
 ·cases h
structure BM (D:DataW Nat) (es:List Nat) (f:Nat->En):Prop where
 tidy:Maps.Tidy D
 size:Maps.size D=es.length
 hit:∀e∈es,Maps.has D (.int .i64 (f e).at_)=true/\∀z,D.atKey (.int .i64 (f e).at_) z=.held e
 miss:∀x:Int,(∀e∈es,(f e).at_≠x)->Maps.has D (.int .i64 x)=false
theorem BM.uniq{D:DataW Nat}{f:Nat->En}(h:BM D es f){e':Nat}(he:e∈es)(he':e'∈es)(ha:(f e).at_=(f e').at_):e=e':=by
 have h1:=(h.hit e he).2 .nil
 rw[ha,(h.hit e' he').2 .nil]at h1
 cases h1
 rfl
theorem BM.congr{D:DataW Nat}{es':List Nat}{f f':Nat->En}(h:BM D es f)(hm:∀e,e∈es' ↔ e∈es)(hl:es'.length=es.length)(hf:∀e∈es,(f' e).at_=(f e).at_):BM D es' f' :=
 ⟨h.tidy,by rw[hl];exact h.size,fun e he=>by rw[hf e ((hm e).1 he)];exact h.hit e ((hm e).1 he),fun x hx=>h.miss x (fun e he=>by rw[<- hf e he];exact hx e ((hm e).2 he))⟩
theorem BM.put{D:DataW Nat}{f:Nat->En}(h:BM D es f)(hn:∀e'∈es,(f e').at_≠(f e).at_):BM (D.put (.int .i64 (f e).at_) (.held e)) (es++[e]) f:=by
 have hk:WideAt.IsKeyLit (.int .i64 (f e).at_):=trivial
 have h0:=h.miss (f e).at_ hn
 refine⟨h.tidy.put hk _,by rw[Maps.size_put h.tidy,h0];simp[h.size],fun e' he'=>?_,fun x hx=>?_⟩
 ·rcases List.mem_append.1 he' with he' | he'
  ·have hne:(Lit.int .i64 (f e').at_)≠.int .i64 (f e).at_:=fun q=>hn e' he' (by injection q)
   exact⟨by rw[Maps.has_put_other hne];exact (h.hit e' he').1,fun z=>by rw[Maps.atKey_put_other hne];exact (h.hit e' he').2 z⟩
  ·simp at he'
   subst he'
   exact⟨Maps.has_put_same h.tidy.isMap hk _,fun z=>Maps.atKey_put_same h.tidy.isMap hk _ z⟩
 ·have hne:(Lit.int .i64 x)≠.int .i64 (f e).at_:=fun q=>hx e (by simp) (by injection q with _ q;exact q.symm)
  rw[Maps.has_put_other hne]
  exact h.miss x (fun e' he'=>hx e' (by simp[he']))
theorem BM.del{D:DataW Nat}{B:List Nat}{f:Nat->En}(h:BM D (e :: B) f)(hn:e ∉ B):BM (D.del (.int .i64 (f e).at_)) B f:=by
 have he:=(h.hit e (by simp)).1
 have hs:=Maps.size_del (k:=.int .i64 (f e).at_) h.tidy
 rw[he,h.size]at hs
 have hat:∀e'∈B,(f e').at_≠(f e).at_:=fun e' he' ha=>hn (by rw[<- h.uniq (by simp[he']:e'∈e :: B) (by simp) ha];exact he')
 refine⟨h.tidy.del _,by simp at hs;omega,fun e' he'=>?_,fun x hx=>?_⟩
 ·have hne:(Lit.int .i64 (f e').at_)≠.int .i64 (f e).at_:=fun q=>hat e' he' (by injection q)
  exact⟨by rw[Maps.has_del_other hne];exact (h.hit e' (by simp[he'])).1,fun z=>by rw[Maps.atKey_del_other hne];exact (h.hit e' (by simp[he'])).2 z⟩
 ·by_cases hxe:x=(f e).at_
  ·rw[hxe];exact Maps.has_del_same
  ·have hne:(Lit.int .i64 x)≠.int .i64 (f e).at_:=fun q=>hxe (by injection q)
   rw[Maps.has_del_other hne]
   exact h.miss x (fun e' he'=>by
    rcases List.mem_cons.1 he' with q | q
    ·rw[q];exact fun q=>hxe q.symm
    ·exact hx e' q)
theorem BM.nil(f:Nat->En):BM (.map []) [] f:=⟨Maps.tidy_empty,rfl,(fun e he=>by cases he),fun _ _=>rfl⟩
open Go.RowKit Go.ChangeMaps
theorem turned_but(h:w.mapTurned w' b):But (fun x=>x=b) w w':=by
 obtain⟨es,ck,es',ck',_,rfl⟩:=h
 exact⟨rfl,rfl,rfl,by simp[setBlock],fun k _ hk=>by simp[setBlock,Array.getElem?_setIfInBounds];intro e;exact absurd e.symm hk⟩
theorem ownsMap_lt{D:DataW Nat}(h:w.ownsMap Tryz.prog 3 ptrElem mp n D):mp<w.heap.size:=by
 obtain⟨es,ck,h1,_⟩:=h
 exact (Array.getElem?_eq_some_iff.1 h1).1
theorem ownsMap_keep{D:DataW Nat}(h:w.ownsMap Tryz.prog 3 ptrElem mp n D)(hk:w'.heap[mp]?=w.heap[mp]?):w'.ownsMap Tryz.prog 3 ptrElem mp n D:=by
 obtain⟨es,ck,h1,h2⟩:=h
 exact⟨es,ck,hk.trans h1,h2⟩
def Cab (w:World) (c p room:Nat) (r mp:Nat) (hi mi:Int):Prop:=w.heap[c]?=some (.cells #[.pointer (some ⟨p,0,none⟩),.int .i64 (room:Int),.pointer (some ⟨r,0,none⟩),.map (some mp),.int .i64 hi,.int .i64 mi] 188 (0,0))
theorem Cab.lt{room:Nat}(h:Cab w c p room r mp hi mi):c<w.heap.size:=(Array.getElem?_eq_some_iff.1 h).1
theorem Cab.cells{room:Nat}(h:Cab w c p room r mp hi mi):w.cell? ⟨c,0,none⟩=some (.pointer (some ⟨p,0,none⟩))/\w.cell? ⟨c,1,none⟩=some (.int .i64 (room:Int))/\w.cell? ⟨c,2,none⟩=some (.pointer (some ⟨r,0,none⟩))/\w.cell? ⟨c,3,none⟩=some (.map (some mp))/\w.cell? ⟨c,4,none⟩=some (.int .i64 hi)/\w.cell? ⟨c,5,none⟩=some (.int .i64 mi):=by
 unfold Cab at h
 refine⟨?_,?_,?_,?_,?_,?_⟩ <;> simp[World.cell?,h]
theorem Cab.frozen{room:Nat}(h:Cab w c p room r mp hi mi)(t:Nat):w.frozen? ⟨c,t,none⟩=false:=by
 unfold Cab at h
 simp[World.frozen?,h]
theorem Cab.ne_ent{room:Nat}(h:Cab w c p room r mp hi mi){e:En}(hx:EnB w x e):x≠c:=fun q=>by
 unfold Cab at h
 unfold EnB at hx
 rw[q,h]at hx
 cases hx
theorem ent_ne_map{D:DataW Nat}(h:w.ownsMap Tryz.prog 3 ptrElem mp n D){e:En}(hx:EnB w x e):x≠mp:=fun q=>by
 obtain⟨es,ck,h1,_⟩:=h
 unfold EnB at hx
 rw[q,h1]at hx
 cases hx
theorem Cab.ne_map{room mp':Nat}{D:DataW Nat}(h:Cab w c p room r mp hi mi)(hm:w.ownsMap Tryz.prog 3 ptrElem mp' n D):c≠mp':=fun q=>by
 obtain⟨es,ck,h1,_⟩:=hm
 unfold Cab at h
 rw[q,h1]at h
 cases h
structure Ca (X:Nat->Prop) (w:World) (c p room r mp n:Nat) (hi mi:Int) (es:List Nat) (f:Nat->En) (Z:Nat->List Int):Prop where
 blk:Cab w c p room r mp hi mi
 ens:Ens w (fun x=>x∈r :: es) f
 ring:Rg f r es
 map:∃D,w.ownsMap Tryz.prog 3 ptrElem mp n D/\BM D es f
 dat:∀e∈es,∃g cap,(f e).dv=.slice (some ⟨g,0,none⟩) 512 cap/\Own w g 512 cap (Z e)/\Pl.isB (Z e)/\X g
 xc:X c
 xm:X mp
 xe:∀x∈r :: es,X x
theorem letGo_any{room:Nat}{B:List Nat}{f:Nat->En}{D:DataW Nat}(hc:Cab w c p room r mp hi mi)(hE:Ens w V f)(he:V e)(hb:V (f e).bf)(ha:V (f e).af)(hm:w.ownsMap Tryz.prog 3 ptrElem mp n D)(hD:BM D (e :: B) f)(hn:e ∉ B)(hat:(Lit.int .i64 (f e).at_).wf=true) :
  Calls Tryz.prog 236 #[.pointer (some ⟨c,0,none⟩),.pointer (some ⟨e,0,none⟩)] w fun q w'=>q=.returned (.tuple #[])/\Ens w' V (unl f e)/\(∃D',w'.ownsMap Tryz.prog 3 ptrElem mp n D'/\BM D' B (unl f e))/\But (fun x=>V x\/x=mp) w w':=by
 have HU:=hid (unlink_any hE he hb ha)
 have hVc:¬V c:=fun hv=>hc.ne_ent (hE c hv) rfl
 have hVm:¬V mp:=fun hv=>ent_ne_map hm (hE mp hv) rfl
 have hkey:keyOf Tryz.prog 3 (.int .i64 (f e).at_)=some (.int .i64 (f e).at_):=Maps.keyOf_int_mk Tryz.underlying3 hat
 have hcl:=hc.lt
 have c3:=hc.cells.2.2.2.1
 have hml:=ownsMap_lt hm
 have Hm:=hid (And.intro hm hD)
 clear hE hc hm hD
 go_enter Tryz.func236,Tryz.ntmps236
 go_wp2_with fail
 refine Calls.mono HU.out ?_
 rintro q w1 ⟨rfl,h1,b1⟩
 have d3:=(b1.cell (p:=⟨c,3,none⟩) hcl hVc).trans c3
 have a0:=(h1 e he).cells.1
 rw[(unl_same f e e).1]at a0
 have hm1:=ownsMap_keep Hm.out.1 (b1.block mp hml hVm)
 obtain⟨w2,hrun,hm2,ht2⟩:=World.ownsMap.drop (w:=w1.drew) (ownsMap_keep (w':=w1.drew) hm1 rfl) law3 Tryz.underlying186 hkey 0
 have b2:=turned_but ht2
 have hVx:∀x,V x->w2.heap[x]?=w1.heap[x]?:=fun x hx=>b2.block x (h1 x hx).lt (fun q=>hVm (by rw[<- q];exact hx))
 have FIN:=hid (And.intro (fun x hx=>(hVx x hx).trans (h1 x hx):Ens w2 V (unl f e)) (And.intro (And.intro hm2 ((Hm.out.2.del hn).congr (f':=unl f e) (fun _=>Iff.rfl) rfl (fun e' _=>(unl_same f e e').1))) ((b1.mono (fun x _ q=>.inl q)).step (Y:=fun x=>x=mp) ⟨b2.os,b2.tape,b2.output,b2.size,b2.block⟩ (fun x _ q=>.inr q):But (fun x=>V x\/x=mp) w w2)))
 clear HU h1 b1 hm1 c3 hm2 ht2 b2 hVx Hm
 generalize (f e).at_=x at *
 go_wp2_with fail
 go_region
 all_goals go_wp2
 all_goals
  go_end0
  exact⟨rfl,FIN.out.1,⟨_,FIN.out.2.1.1,FIN.out.2.1.2⟩,FIN.out.2.2⟩
open Go.RowKit Go.ChangeMaps
theorem Rg.bfr{f:Nat->En}(h:Rg f r es):(f r).bf∈r :: es:=by
 obtain⟨Q',z,hQ⟩:=last_form r es
 have e1:r :: es++[r]=Q'++z :: [r]:=by
  have:r :: es++[r]=(r :: es)++[r]:=rfl
  rw[this,hQ]
  simp
 have hl:=h.2
 rw[e1,Lk_app]at hl
 obtain⟨_,_,h2,_⟩:=hl
 rw[h2,hQ]
 simp
def view (es:List Nat) (f:Nat->En) (Z:Nat->List Int):List (Int×List Int):=es.map fun e=>((f e).at_,Z e)
def holdL (room:Nat) (l:List (Int×List Int)) (x:Int) (zs:List Int):List (Int×List Int) :=
 if room<(l.filter (fun q=>q.1≠x)++[(x,zs)]).length then (l.filter (fun q=>q.1≠x)++[(x,zs)]).tail else l.filter (fun q=>q.1≠x)++[(x,zs)]
theorem setDv_same(f:Nat->En)(x:Nat)(v:Value)(z:Nat):(setDv f x v z).at_=(f z).at_/\(setDv f x v z).af=(f z).af/\(setDv f x v z).bf=(f z).bf:=by unfold setDv;split <;> simp_all
theorem setDv_at(f:Nat->En)(x:Nat)(v:Value):(setDv f x v x).dv=v:=by unfold setDv;rw[if_pos rfl]
theorem setDv_ne(f:Nat->En){z:Nat}(v:Value)(h:z≠x):setDv f x v z=f z:=if_neg h
theorem Ca.drew{room:Nat}{f:Nat->En}{Z:Nat->List Int}(h:Ca X w c p room r mp n hi mi es f Z):Ca X w.drew c p room r mp n hi mi es f Z:=⟨h.blk,h.ens,h.ring,h.map,h.dat,h.xc,h.xm,h.xe⟩
theorem zero45(w:World):(zeroValue 185).run Tryz.prog w=.ok (.pointer none) w:=by kernel_rfl
theorem hold_hit{room:Nat}{A B:List Nat}{f:Nat->En}{Z:Nat->List Int}(h:Ca X w c p room r mp n hi mi (A++e :: B) f Z)(hrm:(A++e :: B).length<=room){g cap:Nat}(hO:Own w g 512 cap zs)(hb:Pl.isB zs)(hX:X g)(hat:(Lit.int .i64 (f e).at_).wf=true) :
  Calls Tryz.prog 218 #[.pointer (some ⟨c,0,none⟩),.int .i64 (f e).at_,.slice (some ⟨g,0,none⟩) 512 cap] w fun q w'=>q=.returned (.tuple #[])/\(∃f' Z',Ca X w' c p room r mp n hi mi (A++B++[e]) f' Z'/\(∀y,(f' y).at_=(f y).at_)/\Z' e=zs/\∀y,y≠e->Z' y=Z y)/\But X w w'/\Own w' g 512 cap zs:=by
 obtain⟨D,hm,hD⟩:=h.map
 have hkey:keyOf Tryz.prog 3 (.int .i64 (f e).at_)=some (.int .i64 (f e).at_):=Maps.keyOf_int_mk Tryz.underlying3 hat
 have heV:e∈r :: (A++e :: B):=by simp
 obtain⟨hhas,hatk⟩:=hD.hit e (by simp)
 obtain⟨x0,x1,x2,x3,x4,x5⟩:=h.blk.cells
 have e1c:=(h.ens e heV).cells.2.1
 have e1f:=(h.ens e heV).frozen 1
 obtain⟨w1,hw1⟩:∃w1,w1=w.setCell ⟨e,1,none⟩ (.slice (some ⟨g,0,none⟩) 512 cap):=⟨_,rfl⟩
 have h1:Ens w1 (fun y=>y∈r :: (A++e :: B)) (setDv f e (.slice (some ⟨g,0,none⟩) 512 cap)):=by rw[hw1];exact h.ens.setD heV _
 have r1:Rg (setDv f e (.slice (some ⟨g,0,none⟩) 512 cap)) r (A++e :: B):=h.ring.congr (fun y _=>⟨(setDv_same f e _ y).2.1,(setDv_same f e _ y).2.2⟩)
 obtain⟨r2,m1,m2⟩:=r1.unl
 have nce:e≠c:=h.blk.ne_ent (h.ens e heV)
 have b1:But (fun y=>y=e) w w1:=by rw[hw1];exact (But.refl (fun y=>y=e) w).setCell (p:=⟨e,1,none⟩) (show (fun y=>y=e) e from rfl) _
 have hcl:=h.blk.lt
 have cb1:Cab w1 c p room r mp hi mi:=(b1.block c hcl (fun q=>nce q.symm)).trans h.blk
 have nen:e ∉ r :: (A++B):=by
  have hn:=h.ring.1
  have hn2:((r :: A)++e :: B).Nodup:=by simpa using hn
  obtain⟨_,n2,n3⟩:=List.nodup_append.1 hn2
  intro hq
  simp at hq
  rcases hq with q | q | q
  ·exact n3 r (by simp) e (by simp) q.symm
  ·exact n3 e (by simp[q]) e (by simp) rfl
  ·exact (List.nodup_cons.1 n2).1 q
 have hbf:(setDv f e (.slice (some ⟨g,0,none⟩) 512 cap) e).bf∈r :: (A++e :: B):=by rcases m1 with q | q;rw[q];simp;simp[q]
 have haf:(setDv f e (.slice (some ⟨g,0,none⟩) 512 cap) e).af∈r :: (A++e :: B):=by rcases m2 with q | q;rw[q];simp;simp[q]
 have hbr:(unl (setDv f e (.slice (some ⟨g,0,none⟩) 512 cap)) e r).bf∈r :: (A++e :: B):=by
  have:=r2.bfr
  simp at this ⊢
  rcases this with q | q | q
  ·exact .inl q
  ·exact .inr (.inl q)
  ·exact .inr (.inr (.inr q))
 have HML:=hid (makeLatest_any h1 (c:=c) cb1.cells.2.2.1 (fun hv=>cb1.ne_ent (h1 c hv) rfl) cb1.lt heV hbf haf (by simp) hbr)
 have hml:=ownsMap_lt hm
 have nem:e≠mp:=ent_ne_map hm (h.ens e heV)
 have hVm:¬mp∈r :: (A++e :: B):=fun hv=>ent_ne_map hm (h.ens mp hv) rfl
 have hVc:¬c∈r :: (A++e :: B):=fun hv=>h.blk.ne_ent (h.ens c hv) rfl
 have H:=hid (And.intro h (And.intro hD (And.intro r2 nen)))
 have HF:Hid (∀w2,Ens w2 (fun y=>y∈r :: (A++e :: B)) (lnk (unl (setDv f e (.slice (some ⟨g,0,none⟩) 512 cap)) e) e r)->But (fun y=>y∈r :: (A++e :: B)) w1 w2->w2.ownsMap Tryz.prog 3 ptrElem mp n D/\Cab w2 c p room r mp hi mi/\(∃f' Z',Ca X w2 c p room r mp n hi mi (A++B++[e]) f' Z'/\(∀y,(f' y).at_=(f y).at_)/\Z' e=zs/\∀y,y≠e->Z' y=Z y)/\But X w w2/\Own w2 g 512 cap zs):=fun w2 h2 b2=>by
  have b12:But (fun y=>y∈r :: (A++e :: B)) w w2:=(b1.mono (fun y _ q=>by rw[q];exact heV)).trans b2
  have hm2:=ownsMap_keep hm (b12.block mp hml hVm)
  have hc2:Cab w2 c p room r mp hi mi:=(b12.block c hcl hVc).trans h.blk
  have hae:∀y,(lnk (unl (setDv f e (.slice (some ⟨g,0,none⟩) 512 cap)) e) e r y).at_=(f y).at_:=fun y=>by rw[(lnk_same _ _ _ _).1,(unl_same _ _ _).1,(setDv_same _ _ _ _).1]
  have hde:∀y,(lnk (unl (setDv f e (.slice (some ⟨g,0,none⟩) 512 cap)) e) e r y).dv=(setDv f e (.slice (some ⟨g,0,none⟩) 512 cap) y).dv:=fun y=>by rw[(lnk_same _ _ _ _).2,(unl_same _ _ _).2]
  have mem:∀y,y∈A++B++[e] ↔ y∈A++e :: B:=fun y=>by
   simp only[List.mem_append,List.mem_cons,or_false,List.not_mem_nil]
   constructor <;> (intro q;rcases q with q | q) <;> first | (rcases q with q | q <;> simp[q]) | simp[q]
  have t5:∀g' cap' zs',Own w g' 512 cap' zs'->Own w2 g' 512 cap' zs':=fun g' cap' zs' ho=>ho.keep (b12.block g' ho.lt (fun hv=>by
   obtain⟨cur,hk⟩:=ho.kind
   have:=h.ens g' hv
   unfold EnB at this
   rw[hk]at this
   cases this))
  refine⟨hm2,hc2,⟨_,fun y=>if y=e then zs else Z y,⟨hc2,fun y hy=>h2 y ?_,r2.lnk nen,⟨D,hm2,hD.congr mem (by simp) (fun y _=>hae y)⟩,fun y hy=>?_,h.xc,h.xm,fun y hy=>h.xe y ?_⟩,hae,if_pos rfl,fun y hy=>if_neg hy⟩,b12.mono (fun y _ hy=>h.xe y hy),t5 g cap zs hO⟩
  ·rcases List.mem_cons.1 hy with q | q
   ·rw[q];simp
   ·exact List.mem_cons_of_mem _ ((mem y).1 q)
  ·by_cases q:y=e
   ·subst q
    exact⟨g,cap,by rw[hde,setDv_at],by show Own w2 g 512 cap (if y=y then zs else Z y);rw[if_pos rfl];exact t5 g cap zs hO,by show Pl.isB (if y=y then zs else Z y);rw[if_pos rfl];exact hb,hX⟩
   ·obtain⟨g',cap',q1,q2,q3,q4⟩:=h.dat y ((mem y).1 hy)
    exact⟨g',cap',by rw[hde,setDv_ne f _ q];exact q1,by show Own w2 g' 512 cap' (if y=e then zs else Z y);rw[if_neg q];exact t5 g' cap' _ q2,by show Pl.isB (if y=e then zs else Z y);rw[if_neg q];exact q3,q4⟩
  ·rcases List.mem_cons.1 hy with q | q
   ·rw[q];simp
   ·exact List.mem_cons_of_mem _ ((mem y).1 q)
 have hsz:=hD.size
 generalize (f e).at_=x at *
 generalize (f e).dv=od at *
 clear h1 r1 r2 m1 m2 cb1 b1 hbf haf hbr h hD hO
 go_enter Tryz.func218,Tryz.ntmps218
 go_wp2_with (at_lookup;refine wpList_lookup_own_ok _ rfl _ _ 186 rfl 3 185 law3 Tryz.underlying186 ptrElem (zero45 _) .nil [] rfl mp n D rfl hm _ _ rfl hkey ?_;intro v ps hv;rw[hatk .nil]at hv;obtain rfl:=ptrElem_inv hv;rw[hhas])
 rw[<- hw1]
 refine Calls.mono HML.out ?_
 rintro q w2 ⟨rfl,h2,b2⟩
 obtain⟨hm2,hc2,hca,hbx,hox⟩:=HF.out w2 h2 b2
 obtain⟨y0,y1,y2,y3,y4,y5⟩:=hc2.cells
 have hlen:=fun ty=>World.ownsMap.len hm2 Tryz.underlying186 ty
 have hlend:=fun ty=>World.ownsMap.len (ownsMap_keep (w':=w2.drew) hm2 rfl) Tryz.underlying186 ty
 rw[hsz]at hlen hlend
 generalize (A++e :: B).length=ln at *
 have hnr:¬((room:Int)<(ln:Int)):=by omega
 have FIN:=hid (And.intro hca (And.intro hbx hox))
 clear HML HF h2 b2 hca hbx hox hc2 hm2 x0 x1 x2 x3 x4 x5 e1c e1f hhas hatk
 go_wp2_with fail
 go_region
 all_goals go_wp2
 all_goals
  go_end0
  obtain⟨f',Z',q1,q2⟩:=FIN.out.1
  exact⟨rfl,⟨f',Z',q1.drew,q2⟩,FIN.out.2.1.drew,FIN.out.2.2⟩
end Go.Proofs.YtlefjidbpjkhlaaGreat
