import Derived.Test.YtlefjidbpjkhlaaGreatK25
set_option maxRecDepth 100000
set_option maxHeartbeats 16000000
namespace Go.Proofs.YtlefjidbpjkhlaaGreat
variable {Gp:(Nat->List Int->Prop)->Prop}
variable {I J:Pd->Prop}
variable {d:Pd}
variable {bl hi' k l l2 lo lo' q q2 x y:Nat}
variable {ex ts:List Tn}
variable {zs:List Int}
variable {rs:List (Int×List Int)}
variable {s:Js}
open Go.RowKit
def Step (nb:Nat) (Gp:(Nat->List Int->Prop)->Prop) (I:Pd->Prop) (cs:List Cmd) (J:Pd->Prop):Prop :=
 ∀d:Pd,d.Fits nb->I d->Gp (d.runs cs).2.poss/\((d.runs cs).1=0->J (d.runs cs).2/\(d.runs cs).2.Fits nb)
theorem Step.nil{nb:Nat}(h:∀d:Pd,d.Fits nb->I d->Gp d.poss):Step nb Gp I [] I:=fun d hf hi=>⟨h d hf hi,fun _=>⟨hi,hf⟩⟩
theorem Step.seq{nb:Nat}{K:Pd->Prop}{a b:List Cmd}(h:Step nb Gp I a J)(k:Step nb Gp J b K):Step nb Gp I (a++b) K:=fun d hf hi=>by
 obtain⟨h1,h2⟩:=h d hf hi
 by_cases hc:(d.runs a).1=0
 ·obtain⟨h3,h4⟩:=h2 hc
  have:=k _ h4 h3
  rw[Pd.runs_append,if_pos hc]
  exact this
 ·rw[Pd.runs_append,if_neg hc]
  exact⟨h1,fun q=>absurd q hc⟩
theorem Step.one{nb:Nat}{c:Cmd}(hc:c.Ok nb)(hI:∀d:Pd,d.Fits nb->I d->Gp d.poss)(h:∀d:Pd,d.Fits nb->I d->(d.run1 c).1=0->J (d.run1 c).2)(hJ:∀d:Pd,d.Fits nb->J d->Gp d.poss):Step nb Gp I [c] J:=fun d hf hi=>by
 rw[Pd.runs_one]
 rcases d.run1_code c with ⟨h1,_⟩ | ⟨h1,h2⟩
 ·have hj:=h d hf hi h1
  exact⟨hJ _ (hf.run1 hc) hj,fun _=>⟨hj,hf.run1 hc⟩⟩
 ·rw[h2]
  exact⟨hI d hf hi,fun q=>by omega⟩
theorem Step.mono{nb:Nat}{I' J':Pd->Prop}{cs:List Cmd}(h:Step nb Gp I cs J)(hI:∀d,I' d->I d)(hJ:∀d,J d->J' d):Step nb Gp I' cs J':=fun d hf hi=>by
 obtain⟨h1,h2⟩:=h d hf (hI d hi)
 exact⟨h1,fun q=>⟨hJ _ (h2 q).1,(h2 q).2⟩⟩
theorem Step.each{nb:Nat}{cs:List Cmd}{I:Nat->Pd->Prop}(hG:∀k (d:Pd),d.Fits nb->I k d->Gp d.poss)(h:∀k c,cs[k]?=some c->c.Ok nb/\∀d:Pd,d.Fits nb->I k d->(d.run1 c).1=0->I (k+1) (d.run1 c).2):Step nb Gp (I 0) cs (I cs.length):=by
 induction cs generalizing I with
 | nil=>exact Step.nil (hG 0)
 | cons c cs ih=>
  have h0:=h 0 c rfl
  have h1:Step nb Gp (I 0) [c] (I 1):=Step.one h0.1 (hG 0) h0.2 (hG 1)
  have h2:=ih (I:=fun k=>I (k+1)) (fun k=>hG (k+1)) (fun k c' hc=>h (k+1) c' (by simpa using hc))
  exact h1.seq h2
def G (P:Nat->List Int->Prop) (nb fr bl lo hi:Nat) (cont:Nat->Nat->List Int):Prop :=
 ∀v,P fr v->∃l q base ts ex k,v=headZ fr bl l q/\Hd P nb fr bl l q base ts ex k/\∀n,k<=n->n<=ts.length->lo<=q+n/\q+n<=hi/\∀x,HomeB nb fr bl x->after base (ts.take n) x=cont (q+n) x
structure Sole (d:Pd) (nb fr bl l q:Nat) (base:Nat->List Int) (ts ex:List Tn) (k lo hi:Nat) (cont:Nat->Nat->List Int):Prop where
 hd:Hd d.poss nb fr bl l q base ts ex k
 head:∀v,d.poss fr v->v=headZ fr bl l q
 cont:∀n,k<=n->n<=ts.length->lo<=q+n/\q+n<=hi/\∀x,HomeB nb fr bl x->after base (ts.take n) x=cont (q+n) x
theorem Sole.g{nb fr:Nat}{base:Nat->List Int}{hi:Nat}{cont:Nat->Nat->List Int}(h:Sole d nb fr bl l q base ts ex k lo hi cont):G d.poss nb fr bl lo hi cont:=fun v hv=>⟨l,q,base,ts,ex,k,h.head v hv,h.hd,h.cont⟩
theorem Sole.flush{nb fr:Nat}{base:Nat->List Int}{hi:Nat}{cont:Nat->Nat->List Int}(h:Sole d nb fr bl l q base ts ex k lo hi cont)(hf:d.Fits nb)(hr:∀i r,(wantsL ts)[i]?=some r->d.read (fr+1+i)=stampZ r.1 (l:Int) r.2)(hc:(d.run1 .fl).1=0):Sole (d.run1 .fl).2 nb fr bl l q base ts ex ts.length lo hi cont:=by
 have hs:∀x v,(d.run1 .fl).2.poss x v->d.poss x v:=fun x v hv=>by
  rw[(Pd.poss_fl hf hc x v).1 hv]
  exact d.poss_read x
 refine⟨(h.hd.sub (fun x v _ q=>hs x v q)).lasts (fun i r hi v hv=>?_),fun v hv=>h.head v (hs fr v hv),fun n h1 h2=>h.cont n (by have:=h.hd.kle;omega) h2⟩
 rw[(Pd.poss_fl hf hc _ v).1 hv]
 exact hr i r hi
theorem home_of{nb fr:Nat}(hg:∀t∈ts,GoodT nb fr bl t)(hx:(aheadP (fun _=>none) ts.flatten x).isSome=true):HomeB nb fr bl x/\∃zs,aheadP (fun _=>none) ts.flatten x=some zs/\zs.length=512/\Pl.isB zs:=by
 have key:∀(ps:Tn) (ah:Nat->Option (List Int)),aheadP ah ps x=ah x\/∃p∈ps,p.1=x/\aheadP ah ps x=some p.2:=by
  intro ps
  induction ps with
  | nil=>intro ah;exact .inl rfl
  | cons p ps ih=>
   intro ah
   have e:aheadP ah (p :: ps)=aheadP (fun y=>if y=p.1 then some p.2 else ah y) ps:=rfl
   rw[e]
   rcases ih (fun y=>if y=p.1 then some p.2 else ah y) with h | ⟨p',h1,h2,h3⟩
   ·by_cases ex:x=p.1
    ·rw[h]
     exact .inr ⟨p,by simp,ex.symm,if_pos ex⟩
    ·rw[h]
     exact .inl (if_neg ex)
   ·exact .inr ⟨p',by simp[h1],h2,h3⟩
 rcases key ts.flatten (fun _=>none) with h | ⟨p,h1,h2,h3⟩
 ·rw[h]at hx
  cases hx
 ·obtain⟨t,ht,hp⟩:=List.mem_flatten.1 h1
  obtain⟨q1,q2,q3,q4⟩:=hg t ht p hp
  subst h2
  refine⟨⟨q1,fun q=>?_⟩,p.2,h3,q3,q4⟩
  unfold homeC at q2
  rw[if_pos (by omega)]at q2
  cases q2
open Go.RowKit
theorem G.mono{P:Nat->List Int->Prop}{nb fr hi:Nat}{cont:Nat->Nat->List Int}(h:G P nb fr bl lo hi cont)(h1:lo'<=lo)(h2:hi<=hi'):G P nb fr bl lo' hi' cont:=fun v hv=>by
 obtain⟨l,q,base,ts,ex,k,e1,e2,e3⟩:=h v hv
 exact⟨l,q,base,ts,ex,k,e1,e2,fun n n1 n2=>⟨by have:=(e3 n n1 n2).1;omega,by have:=(e3 n n1 n2).2.1;omega,(e3 n n1 n2).2.2⟩⟩
structure Two (d:Pd) (nb fr bl l q:Nat) (base:Nat->List Int) (ts ex:List Tn) (k lo hi:Nat) (cont:Nat->Nat->List Int) (l2 q2:Nat) (base2:Nat->List Int):Prop where
 hd:Hd d.poss nb fr bl l q base ts ex k
 con:∀n,k<=n->n<=ts.length->lo<=q+n/\q+n<=hi/\∀x,HomeB nb fr bl x->after base (ts.take n) x=cont (q+n) x
 hd2:Hd d.poss nb fr bl l2 q2 base2 [] [] 0
 con2:lo<=q2/\q2<=hi/\∀x,HomeB nb fr bl x->base2 x=cont q2 x
 head:∀v,d.poss fr v->v=headZ fr bl l q\/v=headZ fr bl l2 q2
 rd:d.read fr=headZ fr bl l2 q2
theorem Two.g{nb fr:Nat}{base:Nat->List Int}{hi:Nat}{cont:Nat->Nat->List Int}{base2:Nat->List Int}(h:Two d nb fr bl l q base ts ex k lo hi cont l2 q2 base2):G d.poss nb fr bl lo hi cont:=fun v hv=>by
 rcases h.head v hv with e | e
 ·exact⟨l,q,base,ts,ex,k,e,h.hd,h.con⟩
 ·refine⟨l2,q2,base2,[],[],0,e,h.hd2,fun n _ n2=>?_⟩
  have:n=0:=by simpa using n2
  subst this
  exact⟨h.con2.1,h.con2.2.1,h.con2.2.2⟩
theorem Two.flush{nb fr:Nat}{base:Nat->List Int}{hi:Nat}{cont:Nat->Nat->List Int}{base2:Nat->List Int}(h:Two d nb fr bl l q base ts ex k lo hi cont l2 q2 base2)(hf:d.Fits nb)(hc:(d.run1 .fl).1=0):Sole (d.run1 .fl).2 nb fr bl l2 q2 base2 [] [] 0 q2 q2 cont:=by
 have hs:∀x v,(d.run1 .fl).2.poss x v->d.poss x v:=fun x v hv=>by
  rw[(Pd.poss_fl hf hc x v).1 hv]
  exact d.poss_read x
 refine⟨h.hd2.sub (fun x v _ q=>hs x v q),fun v hv=>by rw[(Pd.poss_fl hf hc fr v).1 hv];exact h.rd,fun n _ n2=>?_⟩
 have:n=0:=by simpa using n2
 subst this
 exact⟨Nat.le_refl _,Nat.le_refl _,h.con2.2.2⟩
theorem Sole.two{nb fr:Nat}{base:Nat->List Int}{hi:Nat}{cont:Nat->Nat->List Int}(h:Sole d nb fr bl l q base ts ex k lo hi cont){base2:Nat->List Int}(h2:Hd d.poss nb fr bl l2 q2 base2 [] [] 0)(c2:lo<=q2/\q2<=hi/\∀x,HomeB nb fr bl x->base2 x=cont q2 x)(hc:(d.run1 (.wr fr (headZ fr bl l2 q2))).1=0):Two (d.run1 (.wr fr (headZ fr bl l2 q2))).2 nb fr bl l q base ts ex k lo hi cont l2 q2 base2:=by
 have hs:∀x v,x≠fr->(d.run1 (.wr fr (headZ fr bl l2 q2))).2.poss x v->d.poss x v:=fun x v hx hv=>by
  rcases (Pd.poss_wr hc x v).1 hv with e | e
  ·exact e
  ·exact absurd e.1 hx
 refine⟨h.hd.sub hs,h.cont,h2.sub hs,c2,fun v hv=>?_,by rw[Pd.read_wr hc,if_pos rfl]⟩
 rcases (Pd.poss_wr hc fr v).1 hv with e | e
 ·exact .inl (h.head v e)
 ·exact .inr e.2
theorem ok_head{nb fr:Nat}(h:fr<nb):(Cmd.wr fr (headZ fr bl l q)).Ok nb:=⟨h,length_stampZ (by rw[len_packH];decide),isB_stampZ (by decide) (isB_packZ _)⟩
theorem ok_blank{nb fr:Nat}(h:x<nb):(Cmd.wr x (blankZ fr bl)).Ok nb:=⟨h,length_stampZ (by simp[blankB,packZ,Pl.dig]),isB_stampZ (by decide) (isB_packZ _)⟩
def Placed (d:Pd) (nb fr bl:Nat) (base2:Nat->List Int):Prop:=∀x,HomeB nb fr bl x->∀v,d.poss x v->v=base2 x
theorem home_step{nb fr:Nat}{base:Nat->List Int}{hi:Nat}{cont:Nat->Nat->List Int}(hbl:1<=bl)(hg:∀t∈ts,GoodT nb fr bl t) :
  Step nb (fun P=>G P nb fr bl lo hi cont) (fun d=>Sole d nb fr bl l q base ts ex ts.length lo hi cont) (homeCmds nb (aheadP (fun _=>none) ts.flatten)++[.fl]) (fun d=>Sole d nb fr bl l q base ts ex ts.length lo hi cont/\(∀i r,(wantsL ts)[i]?=some r->d.read (fr+1+i)=stampZ r.1 (l:Int) r.2)/\Placed d nb fr bl (after base ts)):=by
 have hrl:∀d:Pd,Sole d nb fr bl l q base ts ex ts.length lo hi cont->∀i r,(wantsL ts)[i]?=some r->d.read (fr+1+i)=stampZ r.1 (l:Int) r.2:=fun d h i r hr=>by
  have hi:=(List.getElem?_eq_some_iff.1 hr).1
  obtain⟨r',hr',e⟩:=h.hd.dur i (by rw[List.take_length];exact hi) _ (d.poss_read _)
  rw[take_get ⟨wantsL ex,by unfold wantsL;rw[List.flatMap_append]⟩ hi,hr]at hr'
  cases hr'
  exact e
 have s1:Step nb (fun P=>G P nb fr bl lo hi cont) (fun d=>Sole d nb fr bl l q base ts ex ts.length lo hi cont/\∀m,m<0->∀x,(homeKeys nb (aheadP (fun _=>none) ts.flatten))[m]?=some x->d.read x=after base ts x) (homeCmds nb (aheadP (fun _=>none) ts.flatten)) (fun d=>Sole d nb fr bl l q base ts ex ts.length lo hi cont/\∀m,m<(homeCmds nb (aheadP (fun _=>none) ts.flatten)).length->∀x,(homeKeys nb (aheadP (fun _=>none) ts.flatten))[m]?=some x->d.read x=after base ts x):=by
  refine Step.each (I:=fun j d=>Sole d nb fr bl l q base ts ex ts.length lo hi cont/\∀m,m<j->∀x,(homeKeys nb (aheadP (fun _=>none) ts.flatten))[m]?=some x->d.read x=after base ts x) (fun k d hf h=>h.1.g) (fun k c hc=>?_)
  unfold homeCmds at hc
  rw[List.getElem?_map]at hc
  cases hx:(homeKeys nb (aheadP (fun _=>none) ts.flatten))[k]? with
  | none=>rw[hx]at hc;cases hc
  | some x=>
   rw[hx]at hc
   simp only[Option.map_some,Option.some.injEq]at hc
   subst hc
   have hm:=mem_homeKeys.1 (List.mem_of_getElem? hx)
   obtain⟨hH,zs,hz,hz1,hz2⟩:=home_of hg hm.2
   have hxf:x≠fr:=fun e=>hH.2 (by omega)
   have haf:after base ts x=zs:=by unfold after;rw[hz];rfl
   rw[hz]
   refine⟨⟨hH.1,hz1,hz2⟩,fun d hf h hc=>⟨⟨h.1.hd.homed (fun y v hv=>?_),fun v hv=>?_,h.1.cont⟩,fun m hm y hy=>?_⟩⟩
   ·rcases (Pd.poss_wr hc y v).1 hv with e | e
    ·exact .inl e
    ·exact .inr ⟨by rw[e.1];exact hH,by rw[e.1,e.2,haf];rfl⟩
   ·rcases (Pd.poss_wr hc fr v).1 hv with e | e
    ·exact h.1.head v e
    ·exact absurd e.1.symm hxf
   ·rw[Pd.read_wr hc]
    by_cases e:x=y
    ·rw[if_pos e,<- e,haf];rfl
    ·rw[if_neg e]
     by_cases em:m=k
     ·rw[em,hx]at hy
      cases hy
      exact absurd rfl e
     ·exact h.2 m (by omega) y hy
 refine Step.seq (s1.mono (fun d h=>⟨h,fun m hm=>by omega⟩) (fun d h=>h)) (Step.one trivial (fun d hf h=>h.1.g) (fun d hf h hc=>?_) (fun d hf h=>h.1.g))
 have hfl:=h.1.flush hf (hrl d h.1) hc
 refine⟨hfl,hrl _ hfl,fun x hx v hv=>?_⟩
 rw[(Pd.poss_fl hf hc x v).1 hv]
 cases ha:aheadP (fun _=>none) ts.flatten x with
 | none=>
  have e:after base ts x=base x:=by unfold after;rw[ha];rfl
  rcases h.1.hd.home x hx _ (d.poss_read x) with q | q
  ·rw[q,e]
  ·exact q.2
 | some zs=>
  have hk:x∈homeKeys nb (aheadP (fun _=>none) ts.flatten):=mem_homeKeys.2 ⟨hx.1,by rw[ha];rfl⟩
  obtain⟨m,hm⟩:=List.mem_iff_getElem?.1 hk
  refine h.2 m ?_ x hm
  unfold homeCmds
  rw[List.length_map]
  exact (List.getElem?_eq_some_iff.1 hm).1
open Go.RowKit
theorem Placed.fl{nb fr:Nat}{base2:Nat->List Int}(h:Placed d nb fr bl base2)(hf:d.Fits nb)(hc:(d.run1 .fl).1=0):Placed (d.run1 .fl).2 nb fr bl base2:=fun x hx v hv=>by
 rw[(Pd.poss_fl hf hc x v).1 hv]
 exact h x hx _ (d.poss_read x)
theorem Placed.wr{nb fr:Nat}{base2:Nat->List Int}(h:Placed d nb fr bl base2)(hy:fr<=y/\y<fr+bl)(hc:(d.run1 (.wr y zs)).1=0):Placed (d.run1 (.wr y zs)).2 nb fr bl base2:=fun x hx v hv=>by
 rcases (Pd.poss_wr hc x v).1 hv with e | e
 ·exact h x hx v e
 ·exact absurd (by rw[e.1];exact hy) hx.2
def Empty (d:Pd) (nb fr bl l q:Nat) (base2:Nat->List Int) (cont:Nat->Nat->List Int):Prop:=Sole d nb fr bl l q base2 [] [] 0 q q cont/\Placed d nb fr bl base2
theorem head_step{nb fr:Nat}{base:Nat->List Int}{hi:Nat}{cont:Nat->Nat->List Int}(hfr:fr<nb)(hbl:1<=bl){base2:Nat->List Int}(hI:∀d,I d->Sole d nb fr bl l q base ts ex k lo hi cont/\Placed d nb fr bl base2/\Hd d.poss nb fr bl l2 q2 base2 [] [] 0)(c2:lo<=q2/\q2<=hi/\∀x,HomeB nb fr bl x->base2 x=cont q2 x) :
  Step nb (fun P=>G P nb fr bl lo hi cont) I ([.wr fr (headZ fr bl l2 q2)]++[.fl]) (fun d=>Empty d nb fr bl l2 q2 base2 cont):=by
 refine Step.seq (J:=fun d=>Two d nb fr bl l q base ts ex k lo hi cont l2 q2 base2/\Placed d nb fr bl base2) (Step.one (ok_head hfr) (fun d _ h=>(hI d h).1.g) (fun d hf h hc=>?_) (fun d _ h=>h.1.g)) (Step.one trivial (fun d _ h=>h.1.g) (fun d hf h hc=>⟨h.1.flush hf hc,h.2.fl hf hc⟩) (fun d _ h=>h.1.g.mono c2.1 c2.2.1))
 obtain⟨h1,h2,h3⟩:=hI d h
 exact⟨h1.two h3 c2 hc,h2.wr ⟨Nat.le_refl _,by omega⟩ hc⟩
theorem go_step{nb fr:Nat}{base:Nat->List Int}{hi:Nat}{cont:Nat->Nat->List Int}(s:Js)(hfit:fr+bl<=nb)(hbl:1<=bl)(hq:s.seq=q+ts.length)(hq2:s.seq<=1099511627776)(c2:lo<=s.seq/\s.seq<=hi/\∀x,HomeB nb fr bl x->after base ts x=cont s.seq x) :
  Step nb (fun P=>G P nb fr bl lo hi cont) (fun d=>Sole d nb fr bl s.life q base ts ex ts.length lo hi cont/\Placed d nb fr bl (after base ts)) (goCmds fr bl s++[.fl]) (fun d=>Empty d nb fr bl (goS s).life s.seq (after base ts) cont):=by
 unfold goCmds goS
 by_cases hc:s.life≠0/\s.life<1099511627776
 ·rw[if_pos hc,if_pos hc]
  refine head_step (by omega) hbl (fun d h=>⟨h.1,h.2,?_⟩) c2
  rw[hq]
  exact h.1.hd.next hc.1 hc.2 h.2
 ·rw[if_neg hc,if_neg hc]
  have e:([.wr fr (headZ fr bl 0 s.seq)]++[.fl]++wipes fr bl (fr+1) (bl-1)++[.fl]++[.wr fr (headZ fr bl 1 s.seq)])++[.fl]=([.wr fr (headZ fr bl 0 s.seq)]++[.fl])++(wipes fr bl (fr+1) (bl-1)++([Cmd.fl]++([.wr fr (headZ fr bl 1 s.seq)]++[.fl]))):=by simp
  rw[e]
  have gE:∀l2 (d:Pd),Empty d nb fr bl l2 s.seq (after base ts) cont->G d.poss nb fr bl lo hi cont:=fun l2 d h=>h.1.g.mono c2.1 c2.2.1
  have hc0:s.seq<=s.seq/\s.seq<=s.seq/\∀x,HomeB nb fr bl x->after base ts x=cont s.seq x:=⟨Nat.le_refl _,Nat.le_refl _,c2.2.2⟩
  refine Step.seq (head_step (l2:=0) (q2:=s.seq) (by omega) hbl (fun d h=>⟨h.1,h.2,by rw[hq];exact h.1.hd.none h.2⟩) c2) ?_
  have hwl:(wipes fr bl (fr+1) (bl-1)).length=bl-1:=by simp[wipes]
  refine Step.seq (J:=fun d=>Empty d nb fr bl 0 s.seq (after base ts) cont/\∀m,m<(wipes fr bl (fr+1) (bl-1)).length->d.read (fr+1+m)=blankZ fr bl) (Step.mono (Step.each (I:=fun j d=>Empty d nb fr bl 0 s.seq (after base ts) cont/\∀m,m<j->d.read (fr+1+m)=blankZ fr bl) (fun k d _ h=>gE 0 d h.1) (fun k c hk=>?_)) (fun d h=>⟨h,fun m hm=>by omega⟩) (fun d h=>h)) ?_
  ·unfold wipes at hk
   rw[List.getElem?_map]at hk
   cases hx:(List.range (bl-1))[k]? with
   | none=>rw[hx]at hk;cases hk
   | some x=>
    rw[hx]at hk
    simp only[Option.map_some,Option.some.injEq]at hk
    obtain⟨hkl,hkx⟩:=List.getElem?_eq_some_iff.1 hx
    rw[List.getElem_range]at hkx
    rw[List.length_range]at hkl
    subst hkx
    subst hk
    refine⟨ok_blank (by omega),fun d hf h hcc=>⟨⟨⟨?_,fun v hv=>?_,h.1.1.cont⟩,h.1.2.wr ⟨by omega,by omega⟩ hcc⟩,fun m hm=>?_⟩⟩
    ·refine Hd.empty (by omega) hq2 hbl (fun i hi v hv=>?_) (h.1.2.wr ⟨by omega,by omega⟩ hcc)
     rcases (Pd.poss_wr hcc _ v).1 hv with e | e
     ·rcases h.1.1.hd.log i hi v e with ⟨r,hr,_⟩ | e
      ·simp[wantsL]at hr
      ·exact e
     ·rw[e.2]
      exact oldAt_blank fr bl 0
    ·rcases (Pd.poss_wr hcc fr v).1 hv with e | e
     ·exact h.1.1.head v e
     ·omega
    ·rw[Pd.read_wr hcc]
     by_cases em:m=k
     ·rw[em,if_pos rfl]
     ·rw[if_neg (by omega)]
      exact h.2 m (by omega)
  ·rw[hwl]
   refine Step.seq (J:=fun d=>Empty d nb fr bl 0 s.seq (after base ts) cont/\∀i,i<bl-1->∀v,d.poss (fr+1+i) v->v=blankZ fr bl) (Step.one trivial (fun d _ h=>gE 0 d h.1) (fun d hf h hcc=>⟨⟨h.1.1.flush hf (fun i r hr=>by simp[wantsL]at hr) hcc,h.1.2.fl hf hcc⟩,fun i hi v hv=>?_⟩) (fun d _ h=>gE 0 d h.1)) ?_
   ·rw[(Pd.poss_fl hf hcc _ v).1 hv]
    exact h.2 i hi
   ·have hst:=head_step (nb:=nb) (fr:=fr) (bl:=bl) (l:=0) (q:=s.seq) (base:=after base ts) (ts:=[]) (ex:=[]) (k:=0) (lo:=s.seq) (hi:=s.seq) (cont:=cont) (l2:=1) (q2:=s.seq) (base2:=after base ts) (I:=fun d=>Empty d nb fr bl 0 s.seq (after base ts) cont/\∀i,i<bl-1->∀v,d.poss (fr+1+i) v->v=blankZ fr bl) (by omega) hbl (fun d h=>⟨h.1.1,h.1.2,Hd.empty (by omega) hq2 hbl (fun i hi v hv=>by rw[h.2 i hi v hv];exact oldAt_blank fr bl 1) h.1.2⟩) hc0
    exact fun d hf h=>⟨(hst d hf h).1.mono c2.1 c2.2.1,(hst d hf h).2⟩
theorem settle_step{nb fr:Nat}{base:Nat->List Int}{hi:Nat}{cont:Nat->Nat->List Int}(s:Js)(hfit:fr+bl<=nb)(hbl:1<=bl)(hg:∀t∈ts,GoodT nb fr bl t)(hq:s.seq=q+ts.length)(hq2:s.seq<=1099511627776)(hah:s.ah=aheadP (fun _=>none) ts.flatten)(c2:lo<=s.seq/\s.seq<=hi/\∀x,HomeB nb fr bl x->after base ts x=cont s.seq x) :
  Step nb (fun P=>G P nb fr bl lo hi cont) (fun d=>Sole d nb fr bl s.life q base ts ex k lo hi cont/\∀i r,(wantsL ts)[i]?=some r->d.read (fr+1+i)=stampZ r.1 (s.life:Int) r.2) (settleCmds nb fr bl s) (fun d=>Empty d nb fr bl (goS s).life s.seq (after base ts) cont):=by
 unfold settleCmds
 have e:[Cmd.fl]++homeCmds nb s.ah++[.fl]++goCmds fr bl s++[.fl]=[Cmd.fl]++((homeCmds nb s.ah++[.fl])++(goCmds fr bl s++[.fl])):=by simp
 rw[e,hah]
 refine Step.seq (J:=fun d=>Sole d nb fr bl s.life q base ts ex ts.length lo hi cont) (Step.one trivial (fun d _ h=>h.1.g) (fun d hf h hc=>h.1.flush hf h.2 hc) (fun d _ h=>h.g)) ?_
 exact Step.seq ((home_step hbl hg).mono (fun d h=>h) (fun d h=>⟨h.1,h.2.2⟩)) (go_step s hfit hbl hq hq2 c2)
open Go.RowKit
theorem aheadP_or(ah:Nat->Option (List Int))(ps:Tn)(x:Nat):aheadP ah ps x=(aheadP (fun _=>none) ps x).or (ah x):=by
 induction ps generalizing ah with
 | nil=>rfl
 | cons p ps ih=>
  have e:∀ah,aheadP ah (p :: ps)=aheadP (fun y=>if y=p.1 then some p.2 else ah y) ps:=fun _=>rfl
  rw[e,e,ih,ih (fun y=>if y=p.1 then some p.2 else none)]
  cases aheadP (fun _=>none) ps x with
  | some v=>rfl
  | none=>
   simp only[Option.none_or]
   by_cases h:x=p.1
   ·simp[h]
   ·simp[h]
theorem after_append(base:Nat->List Int)(ts us:List Tn)(x:Nat):after (after base ts) us x=after base (ts++us) x:=by
 unfold after
 rw[List.flatten_append,aheadP_append,aheadP_or (aheadP (fun _=>none) ts.flatten)]
 cases aheadP (fun _=>none) us.flatten x with
 | some v=>rfl
 | none=>rfl
theorem rec_step{nb fr u:Nat}{base:Nat->List Int}{tt:List Tn}{hi:Nat}{cont:Nat->Nat->List Int}{a:List (Int×List Int)}(hfit:fr+bl<=nb)(hg:∀t∈tt,GoodT nb fr bl t)(hw:wantsL tt=a++rs)(hu:a.length=u)(hr:(wantsL tt).length+1<=bl) :
  Step nb (fun P=>G P nb fr bl lo hi cont) (fun d=>(Sole d nb fr bl l q base tt [] k lo hi cont/\Placed d nb fr bl base)/\∀i r,i<u->(wantsL tt)[i]?=some r->d.read (fr+1+i)=stampZ r.1 (l:Int) r.2) (recCmds (fr+1+u) l rs) (fun d=>(Sole d nb fr bl l q base tt [] k lo hi cont/\Placed d nb fr bl base)/\∀i r,(wantsL tt)[i]?=some r->d.read (fr+1+i)=stampZ r.1 (l:Int) r.2):=by
 have hlen:(wantsL tt).length=u+rs.length:=by rw[hw,List.length_append,hu]
 refine Step.mono (Step.each (I:=fun j d=>(Sole d nb fr bl l q base tt [] k lo hi cont/\Placed d nb fr bl base)/\∀i r,i<u+j->(wantsL tt)[i]?=some r->d.read (fr+1+i)=stampZ r.1 (l:Int) r.2) (fun j d _ h=>h.1.1.g) (fun j c hc=>?_)) (fun d h=>h) (fun d h=>⟨h.1,fun i r hi=>h.2 i r (by have:=(List.getElem?_eq_some_iff.1 hi).1;rw[length_recCmds];omega) hi⟩)
 unfold recCmds at hc
 rw[List.getElem?_mapIdx]at hc
 cases hx:rs[j]? with
 | none=>rw[hx]at hc;cases hc
 | some r=>
  rw[hx]at hc
  simp only[Option.map_some,Option.some.injEq]at hc
  subst hc
  have hj:=(List.getElem?_eq_some_iff.1 hx).1
  have hwr:(wantsL tt)[u+j]?=some r:=by rw[hw,List.getElem?_append_right (by omega),show u+j-a.length=j by omega,hx]
  have hok:=wantsL_ok hg r (List.mem_of_getElem? hwr)
  refine⟨⟨by omega,length_stampZ hok.2.1,isB_stampZ (by omega) hok.2.2⟩,fun d hf h hcc=>⟨⟨⟨h.1.1.hd.record (fun x v hv=>?_),fun v hv=>?_,h.1.1.cont⟩,h.1.2.wr ⟨by omega,by omega⟩ hcc⟩,fun i r' hi hr'=>?_⟩⟩
  ·rcases (Pd.poss_wr hcc x v).1 hv with e | e
   ·exact .inl e
   ·exact .inr ⟨u+j,r,by omega,hwr,e.2⟩
  ·rcases (Pd.poss_wr hcc fr v).1 hv with e | e
   ·exact h.1.1.head v e
   ·omega
  ·rw[Pd.read_wr hcc]
   by_cases e:i=u+j
   ·subst e
    rw[hwr]at hr'
    cases hr'
    rw[if_pos (by omega)]
   ·rw[if_neg (by omega)]
    exact h.2 i r' (by omega) hr'
structure Nm (d:Pd) (s:Js) (nb fr bl q:Nat) (base:Nat->List Int) (ts:List Tn) (k lo hi:Nat) (cont:Nat->Nat->List Int):Prop where
 sole:Sole d nb fr bl s.life q base ts [] k lo hi cont
 rd:∀i r,(wantsL ts)[i]?=some r->d.read (fr+1+i)=stampZ r.1 (s.life:Int) r.2
 pl:Placed d nb fr bl base
 l0:s.life≠0
 used:s.used=(wantsL ts).length
 seq:s.seq=q+ts.length
 ah:s.ah=aheadP (fun _=>none) ts.flatten
theorem goS_l0(s:Js):(goS s).life≠0/\(goS s).used=0/\(goS s).ah=fun _=>none:=by
 unfold goS
 split
 ·exact⟨by show s.life+1≠0;omega,rfl,rfl⟩
 ·exact⟨by show (1:Nat)≠0;omega,rfl,rfl⟩
theorem Empty.nm{nb fr:Nat}{base2:Nat->List Int}{cont:Nat->Nat->List Int}(h:Empty d nb fr bl (goS s).life s.seq base2 cont):Nm d (goS s) nb fr bl s.seq base2 [] 0 s.seq s.seq cont :=
 ⟨h.1,fun i r hr=>by simp[wantsL]at hr,h.2,(goS_l0 s).1,(goS_l0 s).2.1,goS_seq s,(goS_l0 s).2.2⟩
open Go.RowKit
theorem Sole.mono{nb fr:Nat}{base:Nat->List Int}{hi:Nat}{cont:Nat->Nat->List Int}(h:Sole d nb fr bl l q base ts ex k lo hi cont)(h1:lo'<=lo)(h2:hi<=hi'):Sole d nb fr bl l q base ts ex k lo' hi' cont :=
 ⟨h.hd,h.head,fun n n1 n2=>⟨by have:=(h.cont n n1 n2).1;omega,by have:=(h.cont n n1 n2).2.1;omega,(h.cont n n1 n2).2.2⟩⟩
theorem Nm.mono{nb fr:Nat}{base:Nat->List Int}{hi:Nat}{cont:Nat->Nat->List Int}(h:Nm d s nb fr bl q base ts k lo hi cont)(h1:lo'<=lo)(h2:hi<=hi'):Nm d s nb fr bl q base ts k lo' hi' cont :=
 ⟨h.sole.mono h1 h2,h.rd,h.pl,h.l0,h.used,h.seq,h.ah⟩
theorem Nm.g{nb fr:Nat}{base:Nat->List Int}{hi:Nat}{cont:Nat->Nat->List Int}(h:Nm d s nb fr bl q base ts k lo hi cont):G d.poss nb fr bl lo hi cont:=h.sole.g
theorem Nm.good{nb fr:Nat}{base:Nat->List Int}{hi:Nat}{cont:Nat->Nat->List Int}(h:Nm d s nb fr bl q base ts k lo hi cont):∀t∈ts,GoodT nb fr bl t:=fun t ht=>h.sole.hd.good t (by simp[ht])
theorem Nm.c2{nb fr:Nat}{base:Nat->List Int}{hi:Nat}{cont:Nat->Nat->List Int}(h:Nm d s nb fr bl q base ts k lo hi cont):lo<=s.seq/\s.seq<=hi/\∀x,HomeB nb fr bl x->after base ts x=cont s.seq x:=by
 have:=h.sole.cont ts.length h.sole.hd.kle (Nat.le_refl _)
 rw[<- h.seq,List.take_length]at this
 exact this
theorem Nm.seq_le{nb fr:Nat}{base:Nat->List Int}{hi:Nat}{cont:Nat->Nat->List Int}(h:Nm d s nb fr bl q base ts k lo hi cont):s.seq<=1099511627776:=by
 have:=h.sole.hd.seq
 rw[List.append_nil]at this
 have:=h.seq
 omega
theorem Nm.flush{nb fr:Nat}{base:Nat->List Int}{hi:Nat}{cont:Nat->Nat->List Int}(h:Nm d s nb fr bl q base ts k lo hi cont)(hf:d.Fits nb):G (d.runs [.fl]).2.poss nb fr bl lo hi cont/\((d.runs [.fl]).1=0->(d.runs [.fl]).2.Fits nb/\Nm (d.runs [.fl]).2 s nb fr bl q base ts ts.length s.seq hi cont):=by
 rw[Pd.runs_one]
 rcases d.run1_code .fl with ⟨h1,_⟩ | ⟨h1,h2⟩
 ·have hs:=h.sole.flush hf h.rd h1
  refine⟨hs.g,fun _=>⟨hf.run1 trivial,⟨⟨hs.hd,hs.head,fun n n1 n2=>?_⟩,fun i r hr=>?_,h.pl.fl hf h1,h.l0,h.used,h.seq,h.ah⟩⟩⟩
  ·have:=hs.cont n n1 n2
   exact⟨by have:=h.seq;omega,this.2⟩
  ·rw[Pd.read_fl hf h1]
   exact h.rd i r hr
 ·rw[h2]
  exact⟨h.g,fun q=>by omega⟩
theorem Nm.settle{nb fr:Nat}{base:Nat->List Int}{hi:Nat}{cont:Nat->Nat->List Int}(h:Nm d s nb fr bl q base ts k lo hi cont)(hf:d.Fits nb)(hfit:fr+bl<=nb)(hbl:1<=bl):G (d.runs (settleCmds nb fr bl s)).2.poss nb fr bl lo hi cont/\((d.runs (settleCmds nb fr bl s)).1=0->(d.runs (settleCmds nb fr bl s)).2.Fits nb/\Nm (d.runs (settleCmds nb fr bl s)).2 (goS s) nb fr bl s.seq (after base ts) [] 0 s.seq s.seq cont):=by
 obtain⟨h1,h2⟩:=settle_step s hfit hbl h.good h.seq h.seq_le h.ah h.c2 d hf ⟨h.sole,h.rd⟩
 exact⟨h1,fun q=>⟨(h2 q).2,(h2 q).1.nm⟩⟩
def appS (bl:Nat) (s:Js) (t:Tn):Js:=⟨(wlE bl s (txRecs t).length).life,(wlE bl s (txRecs t).length).seq+1,(wlE bl s (txRecs t).length).used,aheadP (wlE bl s (txRecs t).length).ah t⟩
theorem Nm.put{nb fr:Nat}{base:Nat->List Int}{cont:Nat->Nat->List Int}(h:Nm d s nb fr bl q base ts k lo s.seq cont)(hf:d.Fits nb)(hfit:fr+bl<=nb){t:Tn}(ht:GoodT nb fr bl t)(hsq:s.seq<1099511627776)(hroom:s.used+(txRecs t).length+1<=bl)(c3:∀x,HomeB nb fr bl x->after base (ts++[t]) x=cont (s.seq+1) x) :
  G (d.runs (recCmds (fr+1+s.used) s.life (txRecs t))).2.poss nb fr bl lo (s.seq+1) cont/\((d.runs (recCmds (fr+1+s.used) s.life (txRecs t))).1=0->(d.runs (recCmds (fr+1+s.used) s.life (txRecs t))).2.Fits nb/\Nm (d.runs (recCmds (fr+1+s.used) s.life (txRecs t))).2 ⟨s.life,s.seq+1,s.used+(txRecs t).length,aheadP s.ah t⟩ nb fr bl q base (ts++[t]) k lo (s.seq+1) cont):=by
 have hwl:(wantsL (ts++[t])).length=s.used+(txRecs t).length:=by rw[wantsL_snoc,List.length_append,h.used]
 have hsq2:=h.seq
 have hs0:Sole d nb fr bl s.life q base (ts++[t]) [] k lo (s.seq+1) cont:=by
  refine⟨h.sole.hd.more h.l0 h.pl ht (by omega) (by omega),h.sole.head,fun n n1 n2=>?_⟩
  rw[List.length_append,List.length_singleton]at n2
  by_cases e:n<=ts.length
  ·rw[List.take_append_of_le_length e]
   have:=h.sole.cont n n1 e
   exact⟨this.1,by omega,this.2.2⟩
  ·have e2:n=ts.length+1:=by omega
   subst e2
   rw[List.take_of_length_le (by simp),show q+(ts.length+1)=s.seq+1 by omega]
   exact⟨by have:=h.c2.1;omega,Nat.le_refl _,c3⟩
 have hg:∀x∈ts++[t],GoodT nb fr bl x:=fun x hx=>by
  rcases List.mem_append.1 hx with hx | hx
  ·exact h.good x hx
  ·simp at hx
   rw[hx]
   exact ht
 have hst:=rec_step (nb:=nb) (fr:=fr) (bl:=bl) (l:=s.life) (q:=q) (u:=s.used) (base:=base) (tt:=ts++[t]) (k:=k) (lo:=lo) (hi:=s.seq+1) (cont:=cont) (a:=wantsL ts) (rs:=txRecs t) hfit hg (wantsL_snoc ts t) h.used.symm (by omega)
 obtain⟨r1,r2⟩:=hst d hf ⟨⟨hs0,h.pl⟩,fun i r hi hr=>by
  rw[take_get ⟨txRecs t,wantsL_snoc ts t⟩ (by rw[<- h.used];exact hi)]at hr
  exact h.rd i r hr⟩
 refine⟨r1,fun hc=>⟨(r2 hc).2,⟨(r2 hc).1.1.1,(r2 hc).1.2,(r2 hc).1.1.2,h.l0,hwl.symm,by simp;omega,?_⟩⟩⟩
 show aheadP s.ah t=_
 rw[h.ah,List.flatten_append,aheadP_append]
 simp
theorem Nm.append{nb fr:Nat}{base:Nat->List Int}{cont:Nat->Nat->List Int}(h:Nm d s nb fr bl q base ts k lo s.seq cont)(hf:d.Fits nb)(hfit:fr+bl<=nb){t:Tn}(ht:GoodT nb fr bl t)(hsq:s.seq<1099511627776)(hroom:(txRecs t).length+1<=bl)(c3:∀x,HomeB nb fr bl x->after base (ts++[t]) x=cont (s.seq+1) x) :
  G (d.runs (wlCmds nb fr bl s (txRecs t))).2.poss nb fr bl lo (s.seq+1) cont/\((d.runs (wlCmds nb fr bl s (txRecs t))).1=0->(d.runs (wlCmds nb fr bl s (txRecs t))).2.Fits nb/\∃q' base' ts' k',Nm (d.runs (wlCmds nb fr bl s (txRecs t))).2 (appS bl s t) nb fr bl q' base' ts' k' lo (s.seq+1) cont):=by
 unfold wlCmds appS wlE wlS
 by_cases hb:bl-1<s.used+(txRecs t).length
 ·simp only[if_pos hb]
  obtain⟨h1,h2⟩:=h.settle hf hfit (by omega)
  have h2':=(goS_l0 s).2.1
  rw[Pd.runs_append]
  by_cases hc:(d.runs (settleCmds nb fr bl s)).1=0
  ·simp only[if_pos hc]
   obtain⟨f2,n2⟩:=h2 hc
   have n2':Nm (d.runs (settleCmds nb fr bl s)).2 (goS s) nb fr bl s.seq (after base ts) [] 0 s.seq (goS s).seq cont:=by rw[goS_seq];exact n2
   obtain⟨p1,p2⟩:=n2'.put f2 hfit ht (by rw[goS_seq];exact hsq) (by rw[h2'];omega) (fun x hx=>by rw[goS_seq,<- c3 x hx,List.nil_append,after_append])
   rw[goS_seq]at p1 p2
   exact⟨p1.mono h.c2.1 (Nat.le_refl _),fun q=>⟨(p2 q).1,_,_,_,_,by rw[goS_seq];exact ((p2 q).2).mono h.c2.1 (Nat.le_refl _)⟩⟩
  ·simp only[if_neg hc]
   exact⟨h1.mono (Nat.le_refl _) (by omega),fun q=>absurd q hc⟩
 ·simp only[if_neg hb,List.nil_append]
  obtain⟨p1,p2⟩:=h.put hf hfit ht hsq (by omega) c3
  exact⟨p1,fun q=>⟨(p2 q).1,_,_,_,_,(p2 q).2⟩⟩
open Go.RowKit
theorem Nm.read{nb fr:Nat}{base:Nat->List Int}{hi:Nat}{cont:Nat->Nat->List Int}(h:Nm d s nb fr bl q base ts k lo hi cont)(hx:HomeB nb fr bl x):jread d s x=cont s.seq x:=by
 unfold jread
 rw[h.ah,h.pl x hx _ (d.poss_read x)]
 exact h.c2.2.2 x hx
end Go.Proofs.YtlefjidbpjkhlaaGreat
