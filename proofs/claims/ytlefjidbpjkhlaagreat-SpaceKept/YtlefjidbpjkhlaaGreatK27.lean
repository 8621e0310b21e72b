import Derived.Test.YtlefjidbpjkhlaaGreatK26
set_option maxRecDepth 100000
set_option maxHeartbeats 16000000
namespace Go.Proofs.YtlefjidbpjkhlaaGreat
variable {d:Pd}
variable {s:Js}
variable {b bl f hc i k lo lo' q tc tn x:Nat}
variable {Ts ts:List Tn}
variable {I J:Pd->Prop}
variable {ah:Nat->Option (List Int)}
variable {ps:List Pm}
variable {w:World}
variable {ha ta:Option Addr}
open Go.RowKit
theorem Nm.again{nb fr:Nat}{base:Nat->List Int}{hi:Nat}{cont:Nat->Nat->List Int}(h:Nm d s nb fr bl q base ts k lo hi cont)(hnb:nb<=524288)(hbl:fr+bl<=nb) :
  headAt fr bl (d.read fr)=some (s.life,q)/\openS nb fr bl d s.life q=s/\NoOther fr bl s d:=by
 have hq:=h.seq_le
 have hsq:=h.seq
 have hfit:=h.sole.hd.fit
 have h1:Hd (fun x v=>v=d.read x) nb fr bl s.life q base ts [] ts.length:=(h.sole.hd.sub (fun x v _ e=>by rw[e];exact d.poss_read x)).lasts (fun i r hr v hv=>by rw[hv];exact h.rd i r hr)
 obtain⟨n,n1,n2,n3,n4,_⟩:=h1.found hnb hbl (rd:=d.read) (fun x _=>rfl)
 have hn:n=ts.length:=by omega
 subst hn
 rw[List.take_length]at n3 n4
 have e:(⟨s.life,q+ts.length,(wantsL ts).length,aheadP (fun _=>none) ts.flatten⟩:Js)=s:=by
  rw[<- h.seq,<- h.used,<- h.ah]
 rw[e]at n3
 refine⟨?_,n3,fun i hi1 hi2=>n4 i (by rw[<- h.used];exact hi1) hi2⟩
 rw[h.sole.head _ (d.poss_read fr)]
 exact headAt_head (by omega) (by omega) (by omega) h.sole.hd.life
theorem wipe_step{nb fr from_ count:Nat}{base:Nat->List Int}(hin:∀j,j<count->fr<=from_+j/\from_+j<fr+bl)(hfit:fr+bl<=nb)(hI:∀d,I d->∀x,HomeB nb fr bl x->d.read x=base x) :
  Step nb (fun _=>True) I (wipes fr bl from_ count) (fun d=>(∀x,HomeB nb fr bl x->d.read x=base x)/\∀m,m<count->d.read (from_+m)=blankZ fr bl):=by
 have hwl:(wipes fr bl from_ count).length=count:=by simp[wipes]
 refine Step.mono (Step.each (I:=fun j d=>(∀x,HomeB nb fr bl x->d.read x=base x)/\∀m,m<j->d.read (from_+m)=blankZ fr bl) (fun _ _ _ _=>trivial) (fun k c hk=>?_)) (fun d h=>⟨hI d h,fun m hm=>by omega⟩) (fun d h=>⟨h.1,fun m hm=>h.2 m (by rw[hwl];exact hm)⟩)
 unfold wipes at hk
 rw[List.getElem?_map]at hk
 cases hx:(List.range count)[k]? with
 | none=>rw[hx]at hk;cases hk
 | some x=>
  rw[hx]at hk
  simp only[Option.map_some,Option.some.injEq]at hk
  obtain⟨hkl,hkx⟩:=List.getElem?_eq_some_iff.1 hx
  rw[List.getElem_range]at hkx
  rw[List.length_range]at hkl
  subst hkx
  subst hk
  have hkk:=hin k hkl
  refine⟨ok_blank (by omega),fun d hf h hcc=>⟨fun x hx=>?_,fun m hm=>?_⟩⟩
  ·rw[Pd.read_wr hcc,if_neg (fun e=>hx.2 (by omega))]
   exact h.1 x hx
  ·rw[Pd.read_wr hcc]
   by_cases em:m=k
   ·rw[em,if_pos rfl]
   ·rw[if_neg (by omega)]
    exact h.2 m (by omega)
theorem flush_step{nb:Nat}(h:∀d d':Pd,I d->(∀x,d'.read x=d.read x)->J d'):Step nb (fun _=>True) I [.fl] J:=Step.one trivial (fun _ _ _=>trivial) (fun d hf hi hc=>h d _ hi (fun x=>Pd.read_fl hf hc x)) (fun _ _ _=>trivial)
theorem format_nm{nb fr:Nat}{cont:Nat->Nat->List Int}(hfit:fr+bl<=nb)(hbl:1<=bl)(hf:d.Fits nb)(c0:∀x,HomeB nb fr bl x->d.read x=cont 0 x)(hc:(d.runs (formatCmds fr bl)).1=0):(d.runs (formatCmds fr bl)).2.Fits nb/\Nm (d.runs (formatCmds fr bl)).2 (beginS noS) nb fr bl 0 d.read [] 0 0 0 cont:=by
 have key:Step nb (fun _=>True) (fun d'=>d'=d) (formatCmds fr bl) (fun d'=>(∀x v,d'.poss x v->v=d'.read x)/\(∀x,HomeB nb fr bl x->d'.read x=d.read x)/\(∀m,m<bl-1->d'.read (fr+1+m)=blankZ fr bl)/\d'.read fr=headZ fr bl 1 0):=by
  unfold formatCmds
  refine Step.seq (J:=fun d'=>((∀x,HomeB nb fr bl x->d'.read x=d.read x)/\∀m,m<bl-1->d'.read (fr+1+m)=blankZ fr bl)/\d'.read fr=headZ fr bl 1 0) (Step.seq (J:=fun d'=>(∀x,HomeB nb fr bl x->d'.read x=d.read x)/\∀m,m<bl-1->d'.read (fr+1+m)=blankZ fr bl) (Step.seq (Step.seq (Step.seq (wipe_step (base:=d.read) (fun j hj=>⟨by omega,by omega⟩) hfit (fun d' e x _=>by rw[e])) (flush_step (J:=fun d'=>∀x,HomeB nb fr bl x->d'.read x=d.read x) (fun a b h e x hx=>by rw[e];exact h.1 x hx))) (wipe_step (base:=d.read) (fun j hj=>⟨by omega,by omega⟩) hfit (fun d' h=>h))) (flush_step (fun a b h e=>⟨fun x hx=>by rw[e];exact h.1 x hx,fun m hm=>by rw[e];exact h.2 m hm⟩))) ?_) ?_
  ·refine Step.one (ok_head (by omega)) (fun _ _ _=>trivial) (fun a _ h hcc=>⟨⟨fun x hx=>?_,fun m hm=>?_⟩,?_⟩) (fun _ _ _=>trivial)
   ·rw[Pd.read_wr hcc,if_neg (fun e=>hx.2 (by omega))]
    exact h.1 x hx
   ·rw[Pd.read_wr hcc,if_neg (by omega)]
    exact h.2 m hm
   ·rw[Pd.read_wr hcc,if_pos rfl]
    rfl
  ·refine Step.one trivial (fun _ _ _=>trivial) (fun a hfa h hcc=>⟨fun x v hv=>?_,fun x hx=>?_,fun m hm=>?_,?_⟩) (fun _ _ _=>trivial)
   ·rw[(Pd.poss_fl hfa hcc x v).1 hv,Pd.read_fl hfa hcc]
   ·rw[Pd.read_fl hfa hcc];exact h.1.1 x hx
   ·rw[Pd.read_fl hfa hcc];exact h.1.2 m hm
   ·rw[Pd.read_fl hfa hcc];exact h.2
 obtain⟨⟨k1,k2,k3,k4⟩,k5⟩:=(key d hf rfl).2 hc
 refine⟨k5,⟨⟨Hd.empty (by decide) (by decide) hbl (fun i hi v hv=>?_) (fun x hx v hv=>?_),fun v hv=>?_,fun n _ n2=>?_⟩,fun i r hr=>by simp[wantsL]at hr,fun x hx v hv=>?_,by decide,rfl,rfl,rfl⟩⟩
 ·rw[k1 _ v hv,k3 i hi]
  exact oldAt_blank _ _ _
 ·rw[k1 x v hv];exact k2 x hx
 ·rw[k1 fr v hv];exact k4
 ·have:n=0:=by simpa using n2
  subst this
  exact⟨Nat.le_refl _,Nat.le_refl _,fun x hx=>c0 x hx⟩
 ·rw[k1 x v hv];exact k2 x hx
open Go.RowKit
theorem aheadP_cons(ah:Nat->Option (List Int))(p:Nat×List Int)(ps:Tn):aheadP ah (p :: ps)=aheadP (fun y=>if y=p.1 then some p.2 else ah y) ps:=rfl
theorem aheadP_away{ps:Tn}(h:∀q∈ps,q.1≠x):aheadP ah ps x=ah x:=by
 induction ps generalizing ah with
 | nil=>rfl
 | cons p ps ih=>
  rw[aheadP_cons,ih (fun q hq=>h q (by simp[hq]))]
  exact if_neg (fun e=>h p (by simp) e.symm)
theorem aheadP_at{ah':Nat->Option (List Int)}(h:ah x=ah' x)(ps:Tn):aheadP ah ps x=aheadP ah' ps x:=by rw[aheadP_or ah,aheadP_or ah',h]
theorem aheadP_set{ps:Tn}{p q:Nat×List Int}(hd:(ps.map Prod.fst).Nodup)(hi:ps[i]?=some q)(hq:q.1=p.1)(ah:Nat->Option (List Int))(x:Nat):aheadP ah (ps.set i p) x=if x=p.1 then some p.2 else aheadP ah ps x:=by
 induction ps generalizing ah i with
 | nil=>cases hi
 | cons a ps ih=>
  rw[List.map_cons,List.nodup_cons]at hd
  cases i with
  | zero=>
   simp at hi
   subst hi
   rw[List.set_cons_zero,aheadP_cons,aheadP_cons]
   by_cases e:x=p.1
   ·rw[if_pos e,aheadP_away (fun r hr er=>hd.1 (by rw[hq,<- e,<- er];exact List.mem_map_of_mem hr)),if_pos e]
   ·rw[if_neg e]
    refine aheadP_at ?_ ps
    rw[if_neg e,if_neg (by rw[hq];exact e)]
  | succ i=>
   rw[List.set_cons_succ,aheadP_cons,aheadP_cons]
   exact ih hd.2 (by simpa using hi) _
def Apart (S:List Pm):Prop:=(S.map Pm.at_).Nodup
theorem Apart.step{S:List Pm}(h:Apart S)(p:Pm):Apart (standStep S p)/\∀a,(∃q∈standStep S p,q.at_=a) ↔ ((∃q∈S,q.at_=a)\/p.at_=a):=by
 cases hf:S.findIdx? (fun q=>q.at_ == p.at_) with
 | some i=>
  obtain⟨e,q,hq,hqa⟩:=standStep_hit hf
  rw[e]
  have hm:(S.set i p).map Pm.at_=S.map Pm.at_:=by
   rw[List.map_set]
   have:(S.map Pm.at_)[i]?=some p.at_:=by rw[List.getElem?_map,hq];simp[hqa]
   apply List.ext_getElem?
   intro t
   by_cases et:i=t
   ·subst et
    rw[List.getElem?_set_self (List.getElem?_eq_some_iff.1 this).1,this]
   ·rw[List.getElem?_set_ne et]
  refine⟨by unfold Apart;rw[hm];exact h,fun a=>?_⟩
  have e1:(∃r∈S.set i p,r.at_=a) ↔ a∈(S.set i p).map Pm.at_:=List.mem_map.symm
  have e2:(∃r∈S,r.at_=a) ↔ a∈S.map Pm.at_:=List.mem_map.symm
  rw[e1,e2,hm]
  refine⟨.inl,fun r=>r.elim id (fun r=>?_)⟩
  rw[<- r,<- hqa]
  exact List.mem_map_of_mem (List.mem_of_getElem? hq)
 | none=>
  obtain⟨e,hno⟩:=standStep_miss hf
  rw[e]
  refine⟨?_,fun a=>?_⟩
  ·unfold Apart
   rw[List.map_append,List.map_cons,List.map_nil,List.nodup_append]
   refine⟨h,by simp,fun a ha b hb=>?_⟩
   simp at hb
   subst hb
   obtain⟨r,hr,rfl⟩:=List.mem_map.1 ha
   exact hno r hr
  ·constructor
   ·rintro ⟨r,hr,hra⟩
    rcases List.mem_append.1 hr with hr | hr
    ·exact .inl ⟨r,hr,hra⟩
    ·simp at hr
     subst hr
     exact .inr hra
   ·rintro (⟨r,hr,hra⟩ | r)
    ·exact⟨r,by simp[hr],hra⟩
    ·exact⟨p,by simp,r⟩
theorem standP_apart(ps:List Pm):Apart (standP ps)/\∀a,(∃q∈standP ps,q.at_=a) ↔ ∃q∈ps,q.at_=a:=by
 have:∀(n:Nat),n<=ps.length->Apart (standP (ps.take n))/\∀a,(∃q∈standP (ps.take n),q.at_=a) ↔ ∃q∈ps.take n,q.at_=a:=by
  intro n
  induction n with
  | zero=>intro _;exact⟨by simp[Apart,standP],fun a=>by simp[standP]⟩
  | succ n ih=>
   intro hn
   obtain⟨h1,h2⟩:=ih (by omega)
   rw[List.take_succ_eq_append_getElem (by omega),standP_snoc]
   obtain⟨h3,h4⟩:=h1.step ps[n]
   refine⟨h3,fun a=>?_⟩
   rw[h4,h2]
   simp only[List.mem_append,List.mem_singleton]
   constructor
   ·rintro (⟨r,hr,e⟩ | e)
    ·exact⟨r,.inl hr,e⟩
    ·exact⟨_,.inr rfl,e⟩
   ·rintro ⟨r,hr | hr,e⟩
    ·exact .inl ⟨r,hr,e⟩
    ·exact .inr (by rw[<- hr];exact e)
 have:=this ps.length (Nat.le_refl _)
 rwa [List.take_length]at this
theorem standP_ahead(h0:∀p∈ps,0<=p.at_)(ah:Nat->Option (List Int)):aheadP ah ((standP ps).map Pm.put)=aheadP ah (ps.map Pm.put):=by
 have:∀(n:Nat),n<=ps.length->aheadP ah ((standP (ps.take n)).map Pm.put)=aheadP ah ((ps.take n).map Pm.put):=by
  intro n
  induction n with
  | zero=>intro _;rfl
  | succ n ih=>
   intro hn
   have ih':=ih (by omega)
   rw[List.take_succ_eq_append_getElem (by omega),standP_snoc,List.map_append]
   show _=aheadP ah (_++[ps[n].put])
   rw[aheadP_snoc,<- ih']
   funext x
   have hp:=h0 ps[n] (List.getElem_mem _)
   have hS:∀q∈standP (ps.take n),0<=q.at_:=fun q hq=>h0 q (List.mem_of_mem_take (standP_mem hq))
   have hap:=(standP_apart (ps.take n)).1
   generalize standP (ps.take n)=S at *
   cases hf:S.findIdx? (fun q=>q.at_ == ps[n].at_) with
   | some i=>
    obtain⟨e,q,hq,hqa⟩:=standStep_hit hf
    rw[e,List.map_set]
    refine aheadP_set (q:=q.put) ?_ (by rw[List.getElem?_map,hq];rfl) (by show q.at_.toNat=ps[n].at_.toNat;rw[hqa]) ah x
    rw[List.map_map]
    unfold Apart at hap
    have e2:S.map (Prod.fst ∘ Pm.put)=(S.map Pm.at_).map Int.toNat:=by rw[List.map_map];rfl
    rw[e2]
    unfold List.Nodup at hap ⊢
    rw[List.pairwise_map]
    refine List.Pairwise.imp_of_mem (fun {a b} ha hb hne=>?_) hap
    obtain⟨r,hr,rfl⟩:=List.mem_map.1 ha
    obtain⟨r',hr',rfl⟩:=List.mem_map.1 hb
    have:=hS r hr
    have:=hS r' hr'
    omega
   | none=>
    obtain⟨e,_⟩:=standStep_miss hf
    rw[e,List.map_append]
    show aheadP ah (_++[ps[n].put]) x=_
    rw[aheadP_snoc]
 have:=this ps.length (Nat.le_refl _)
 rwa [List.take_length]at this
open Go.RowKit
theorem putC_good{nb fr:Nat}{p:Pm}(h:putC nb fr bl p.at_ p.data.length=0)(hb:Pl.isB p.data):p.put.1<nb/\homeC nb fr bl (p.put.1:Int)=0/\p.put.2.length=512/\Pl.isB p.put.2:=by
 obtain⟨h1,h2,h3,h4⟩:=putC_zero h
 have e:((p.at_.toNat:Nat):Int)=p.at_:=by omega
 refine⟨by show p.at_.toNat<nb;omega,?_,h1,hb⟩
 show homeC nb fr bl ((p.at_.toNat:Nat):Int)=0
 rw[e]
 unfold homeC
 rw[if_neg (by omega)]
theorem stand_good{nb fr:Nat}(h:∀p∈ps,putC nb fr bl p.at_ p.data.length=0/\Pl.isB p.data):GoodT nb fr bl ((standP ps).map Pm.put):=fun x hx=>by
 obtain⟨p,hp,rfl⟩:=List.mem_map.1 hx
 exact putC_good (h p (standP_mem hp)).1 (h p (standP_mem hp)).2
theorem after_stand(h0:∀p∈ps,0<=p.at_)(base:Nat->List Int)(ts:List Tn):after base (ts++[(standP ps).map Pm.put])=after base (ts++[ps.map Pm.put]):=by
 funext x
 unfold after
 rw[List.flatten_append,List.flatten_append,aheadP_append,aheadP_append]
 simp only[List.flatten_cons,List.flatten_nil,List.append_nil]
 rw[standP_ahead h0]
theorem Nm.appendP{nb fr:Nat}{base:Nat->List Int}{cont:Nat->Nat->List Int}(h:Nm d s nb fr bl q base ts k lo s.seq cont)(hf:d.Fits nb)(hfit:fr+bl<=nb)(hlo:16<=bl)(hp:∀p∈ps,putC nb fr bl p.at_ p.data.length=0/\Pl.isB p.data)(hk:(standP ps).length<=bl / 2-4)(hsq:s.seq<1099511627776)(c3:∀x,HomeB nb fr bl x->after base (ts++[ps.map Pm.put]) x=cont (s.seq+1) x) :
  G (d.runs (wlCmds nb fr bl s (appRecs ps))).2.poss nb fr bl lo (s.seq+1) cont/\((d.runs (wlCmds nb fr bl s (appRecs ps))).1=0->(d.runs (wlCmds nb fr bl s (appRecs ps))).2.Fits nb/\∃q' base' ts' k',Nm (d.runs (wlCmds nb fr bl s (appRecs ps))).2 (appE bl s ps) nb fr bl q' base' ts' k' lo (s.seq+1) cont):=by
 have hg:=stand_good hp
 have hr:(txRecs ((standP ps).map Pm.put)).length+1<=bl:=by
  unfold txRecs
  rw[length_recsZ,length_bytesZ (fun p hp=>(hg p hp).2.2.1),List.length_map]
  exact recs_fit hlo hk
 exact h.append hf hfit hg hsq hr (fun x hx=>by rw[after_stand (fun p hq=>(putC_zero (hp p hq).1).2.1)];exact c3 x hx)
theorem Nm.jn{nb fr:Nat}{base:Nat->List Int}{hi:Nat}{cont:Nat->Nat->List Int}(h:Nm d s nb fr bl q base ts k lo hi cont)(hlo:16<=bl)(hfit:fr+bl<=nb)(hnb:nb<=524288):Jn nb fr bl s :=
 ⟨hlo,hfit,hnb,h.sole.hd.life,h.seq_le,by have:=h.sole.hd.fit;rw[List.append_nil]at this;rw[h.used];exact this⟩
theorem appE_seq(bl:Nat)(s:Js)(ps:List Pm):(appE bl s ps).seq=s.seq+1:=by
 show (wlE bl s (appRecs ps).length).seq+1=s.seq+1
 rw[wlE_seq]
open Go.RowKit
structure Lg (w:World) (g:Nat) (ha:Option Addr) (nb hc fr bl:Nat) (ta:Option Addr) (tn tc:Nat):Prop where
 blk:w.heap[g]?=some (.cells #[.slice ha (512 * nb) hc,.int .i64 (fr:Int),.int .i64 (bl:Int),.slice ta tn tc] 93 (0,0))
theorem Lg.c0{g:Nat}{nb fr:Nat}(h:Lg w g ha nb hc fr bl ta tn tc):w.cell? ⟨g,0,none⟩=some (.slice ha (512 * nb) hc):=by simp[World.cell?,h.blk]
theorem Lg.c1{g:Nat}{nb fr:Nat}(h:Lg w g ha nb hc fr bl ta tn tc):w.cell? ⟨g,1,none⟩=some (.int .i64 (fr:Int)):=by simp[World.cell?,h.blk]
theorem Lg.c2{g:Nat}{nb fr:Nat}(h:Lg w g ha nb hc fr bl ta tn tc):w.cell? ⟨g,2,none⟩=some (.int .i64 (bl:Int)):=by simp[World.cell?,h.blk]
theorem Lg.c3{g:Nat}{nb fr:Nat}(h:Lg w g ha nb hc fr bl ta tn tc):w.cell? ⟨g,3,none⟩=some (.slice ta tn tc):=by simp[World.cell?,h.blk]
theorem Lg.frozen{g:Nat}{nb fr:Nat}(h:Lg w g ha nb hc fr bl ta tn tc)(t:Nat):w.frozen? ⟨g,t,none⟩=false:=by simp[World.frozen?,h.blk]
open Go.RowKit
open Go.RowKit
def contT (home:Nat->List Int) (Ts:List Tn) (k x:Nat):List Int:=after home (Ts.take k) x
theorem Nm.congr{nb fr:Nat}{base:Nat->List Int}{hi:Nat}{cont cont':Nat->Nat->List Int}(h:Nm d s nb fr bl q base ts k lo hi cont)(hc:∀k x,k<=hi->cont k x=cont' k x):Nm d s nb fr bl q base ts k lo hi cont' :=
 ⟨⟨h.sole.hd,h.sole.head,fun n n1 n2=>⟨(h.sole.cont n n1 n2).1,(h.sole.cont n n1 n2).2.1,fun x hx=>by rw[(h.sole.cont n n1 n2).2.2 x hx,hc _ _ (h.sole.cont n n1 n2).2.1]⟩⟩,h.rd,h.pl,h.l0,h.used,h.seq,h.ah⟩
theorem contT_more(home:Nat->List Int)(Ts us:List Tn)(hk:k<=Ts.length)(x:Nat):contT home Ts k x=contT home (Ts++us) k x:=by
 unfold contT
 rw[List.take_append_of_le_length hk]
structure On (d:Pd) (s:Js) (nb fr bl lo:Nat) (home:Nat->List Int) (Ts:List Tn):Prop where
 nm:∃q base ts k,Nm d s nb fr bl q base ts k lo s.seq (contT home Ts)
 on:d.off=false
 sq:s.seq=Ts.length
 pl:d.puts.length<=s.used
structure Cut (d:Pd) (nb fr bl lo:Nat) (home:Nat->List Int) (Ts:List Tn):Prop where
 g:G d.poss nb fr bl lo Ts.length (contT home Ts)
 pl:d.puts.length<=4 * nb+64
theorem On.jn{nb fr:Nat}{home:Nat->List Int}(h:On d s nb fr bl lo home Ts)(hlo:16<=bl)(hfit:fr+bl<=nb)(hnb:nb<=524288):Jn nb fr bl s:=by
 obtain⟨q,base,ts,k,hn⟩:=h.nm
 exact hn.jn hlo hfit hnb
theorem On.puts{nb fr:Nat}{home:Nat->List Int}(h:On d s nb fr bl lo home Ts)(hlo:16<=bl)(hfit:fr+bl<=nb)(hnb:nb<=524288):d.puts.length<=nb:=by
 have:=(h.jn hlo hfit hnb).used
 have:=h.pl
 omega
theorem On.mono{nb fr:Nat}{home:Nat->List Int}(h:On d s nb fr bl lo home Ts)(hl:lo'<=lo):On d s nb fr bl lo' home Ts:=by
 obtain⟨q,base,ts,k,hn⟩:=h.nm
 exact⟨⟨q,base,ts,k,hn.mono hl (Nat.le_refl _)⟩,h.on,h.sq,h.pl⟩
theorem On.read{nb fr:Nat}{home:Nat->List Int}(h:On d s nb fr bl lo home Ts)(hx:HomeB nb fr bl x):jread d s x=contT home Ts Ts.length x:=by
 obtain⟨q,base,ts,k,hn⟩:=h.nm
 rw[hn.read hx,h.sq]
theorem Pd.runs_fl_puts{xs:List Cmd}(h:(d.runs (xs++[.fl])).1=0):(d.runs (xs++[.fl])).2.puts=[]:=by
 rw[Pd.runs_append]at h ⊢
 by_cases hc:(d.runs xs).1=0
 ·rw[if_pos hc]at h ⊢
  rw[Pd.runs_one]at h ⊢
  rw[Pd.fl_ok h]
 ·rw[if_neg hc]at h
  exact absurd h hc
theorem Pd.runs_on{cs:List Cmd}(hon:d.off=false)(h:(d.runs cs).1=0):(d.runs cs).2.off=false:=by
 rcases d.runs_code cs with ⟨_,h2⟩ | ⟨h1,_⟩
 ·exact h2 hon
 ·rw[h]at h1;cases h1
theorem length_settleCmds(nb fr bl:Nat)(s:Js):(settleCmds nb fr bl s).length<=nb+bl+8:=by
 have h1:=length_homeCmds nb s.ah
 have h2:=length_goCmds fr bl s
 unfold settleCmds
 simp only[List.length_append,List.length_cons,List.length_nil]
 omega
theorem On.flush{nb fr:Nat}{home:Nat->List Int}(h:On d s nb fr bl lo home Ts)(hf:d.Fits nb)(hlo:16<=bl)(hfit:fr+bl<=nb)(hnb:nb<=524288) :
  ((d.runs [.fl]).1=0->On (d.runs [.fl]).2 s nb fr bl Ts.length home Ts)/\((d.runs [.fl]).1≠0->Cut (d.runs [.fl]).2 nb fr bl lo home Ts):=by
 have hp:=h.puts hlo hfit hnb
 obtain⟨q,base,ts,k,hn⟩:=h.nm
 obtain⟨g1,g2⟩:=hn.flush hf
 refine⟨fun hc=>⟨⟨q,base,ts,ts.length,?_⟩,Pd.runs_on h.on hc,h.sq,?_⟩,fun hc=>⟨?_,?_⟩⟩
 ·have:=(g2 hc).2
  rw[h.sq]at this ⊢
  exact this
 ·have e:(d.runs [.fl]).2.puts=[]:=Pd.runs_fl_puts (xs:=[]) hc
  rw[e]
  exact Nat.zero_le _
 ·rwa [h.sq]at g1
 ·have:=d.runs_puts [.fl]
  simp only[List.length_cons,List.length_nil]at this
  omega
theorem On.settle{nb fr:Nat}{home:Nat->List Int}(h:On d s nb fr bl lo home Ts)(hf:d.Fits nb)(hlo:16<=bl)(hfit:fr+bl<=nb)(hnb:nb<=524288) :
  ((d.runs (settleCmds nb fr bl s)).1=0->On (d.runs (settleCmds nb fr bl s)).2 (goS s) nb fr bl Ts.length home Ts/\(d.runs (settleCmds nb fr bl s)).2.puts=[]/\∀x,HomeB nb fr bl x->imgB (d.runs (settleCmds nb fr bl s)).2.img x=contT home Ts Ts.length x)/\((d.runs (settleCmds nb fr bl s)).1≠0->Cut (d.runs (settleCmds nb fr bl s)).2 nb fr bl lo home Ts):=by
 have hp:=h.puts hlo hfit hnb
 obtain⟨q,base,ts,k,hn⟩:=h.nm
 obtain⟨g1,g2⟩:=hn.settle hf hfit (by omega)
 refine⟨fun hc=>?_,fun hc=>⟨?_,?_⟩⟩
 ·have hpe:(d.runs (settleCmds nb fr bl s)).2.puts=[]:=by
   have:settleCmds nb fr bl s=([.fl]++homeCmds nb s.ah++[.fl]++goCmds fr bl s)++[.fl]:=rfl
   rw[this]at hc ⊢
   exact Pd.runs_fl_puts hc
  have k2:=(g2 hc).2
  refine⟨⟨⟨s.seq,after base ts,[],0,?_⟩,Pd.runs_on h.on hc,?_,?_⟩,hpe,fun x hx=>?_⟩
  ·rw[goS_seq]
   rw[h.sq]at k2 ⊢
   exact k2
  ·rw[goS_seq];exact h.sq
  ·rw[hpe];exact Nat.zero_le _
  ·rw[k2.pl x hx _ (.inl rfl),hn.c2.2.2 x hx,h.sq]
 ·rwa [h.sq]at g1
 ·have:=d.runs_puts (settleCmds nb fr bl s)
  have:=length_settleCmds nb fr bl s
  omega
theorem On.append{nb fr:Nat}{home:Nat->List Int}(h:On d s nb fr bl lo home Ts)(hf:d.Fits nb)(hlo:16<=bl)(hfit:fr+bl<=nb)(hnb:nb<=524288)(hb:∀p∈ps,Pl.isB p.data)(hc0:appC nb fr bl d s ps=0) :
  ((d.runs (wlCmds nb fr bl s (appRecs ps))).1=0->On (d.runs (wlCmds nb fr bl s (appRecs ps))).2 (appE bl s ps) nb fr bl lo home (Ts++[ps.map Pm.put]))/\((d.runs (wlCmds nb fr bl s (appRecs ps))).1≠0->Cut (d.runs (wlCmds nb fr bl s (appRecs ps))).2 nb fr bl lo home (Ts++[ps.map Pm.put])):=by
 have hp:=h.puts hlo hfit hnb
 have hj:=h.jn hlo hfit hnb
 obtain⟨q,base,ts,k,hn⟩:=h.nm
 unfold appC at hc0
 rw[h.on,if_neg (by decide)]at hc0
 have hz:putsC nb fr bl ps=0:=Classical.byContradiction fun q=>by rw[if_pos q]at hc0;exact q hc0
 rw[if_neg (fun q=>q hz)]at hc0
 have hk:¬bl / 2-4<(standP ps).length:=fun q=>by rw[if_pos q]at hc0;cases hc0
 rw[if_neg hk]at hc0
 have hsq:¬1099511627776<=s.seq:=fun q=>by rw[if_pos q]at hc0;cases hc0
 have hps:∀p∈ps,putC nb fr bl p.at_ p.data.length=0:=by
  clear hc0 hk hb
  induction ps with
  | nil=>intro p hp;cases hp
  | cons a ps ih=>
   unfold putsC at hz
   have ha:putC nb fr bl a.at_ a.data.length=0:=Classical.byContradiction fun q=>by rw[if_pos q]at hz;exact q hz
   rw[if_neg (fun q=>q ha)]at hz
   intro p hp
   rcases List.mem_cons.1 hp with rfl | hp
   ·exact ha
   ·exact ih hz p hp
 have hcn:∀k x,k<=s.seq->contT home Ts k x=contT home (Ts++[ps.map Pm.put]) k x:=fun k x hk=>contT_more home Ts _ (by rw[<- h.sq];exact hk) x
 have hn2:=hn.congr hcn
 obtain⟨g1,g2⟩:=hn2.appendP hf hfit hlo (ps:=ps) (fun p hp=>⟨hps p hp,hb p hp⟩) (by omega) (by omega) (fun x hx=>by
  have h1:=hn.c2.2.2 x hx
  rw[<- after_append]
  unfold contT
  rw[h.sq,List.take_of_length_le (by simp)]
  rw[<- after_append]
  unfold after
  cases hq:aheadP (fun _=>none) [List.map Pm.put ps].flatten x with
  | some z=>rfl
  | none=>
   show after base ts x=after home Ts x
   rw[h1]
   unfold contT
   rw[h.sq,List.take_length])
 have hlr:(appRecs ps).length+1<=bl:=by
  have:(appRecs ps).length=pieceN (515 * (standP ps).length)+1:=by
   unfold appRecs
   rw[length_recsZ,length_bytesZ]
   ·simp
   ·intro x hx
    obtain⟨p,hp,rfl⟩:=List.mem_map.1 hx
    exact (putC_zero (hps p (standP_mem hp))).1
  have:=recs_fit hlo (k:=(standP ps).length) (by omega)
  omega
 have hlen:(wlCmds nb fr bl s (appRecs ps)).length<=nb+bl+8+bl:=by
  have h1:=length_settleCmds nb fr bl s
  unfold wlCmds
  rw[List.length_append,length_recCmds]
  split
  ·omega
  ·simp only[List.length_nil];omega
 refine⟨fun hc=>⟨?_,Pd.runs_on h.on hc,?_,?_⟩,fun hc=>⟨?_,?_⟩⟩
 ·obtain⟨q',base',ts',k',hm⟩:=(g2 hc).2
  rw[<- appE_seq bl s ps]at hm
  exact⟨q',base',ts',k',hm⟩
 ·rw[appE_seq,h.sq];simp
 ·show _<=(wlE bl s (appRecs ps).length).used
  unfold wlE wlS
  unfold wlCmds at hc ⊢
  by_cases hu:bl-1<s.used+(appRecs ps).length
  ·rw[if_pos hu]at hc ⊢
   simp only[wlS,if_pos hu]at hc ⊢
   rw[Pd.runs_append]at hc ⊢
   by_cases hs:(d.runs (settleCmds nb fr bl s)).1=0
   ·rw[if_pos hs]at hc ⊢
    have hpe:(d.runs (settleCmds nb fr bl s)).2.puts=[]:=by
     have:settleCmds nb fr bl s=([.fl]++homeCmds nb s.ah++[.fl]++goCmds fr bl s)++[.fl]:=rfl
     rw[this]at hs ⊢
     exact Pd.runs_fl_puts hs
    have:=(d.runs (settleCmds nb fr bl s)).2.runs_puts (recCmds (fr+1+(goS s).used) (goS s).life (appRecs ps))
    rw[hpe,length_recCmds]at this
    simp only[List.length_nil]at this
    omega
   ·rw[if_neg hs]at hc
    exact absurd hc hs
  ·rw[if_neg hu]at hc ⊢
   simp only[wlS,if_neg hu,List.nil_append]at hc ⊢
   have:=d.runs_puts (recCmds (fr+1+s.used) s.life (appRecs ps))
   rw[length_recCmds]at this
   have:=h.pl
   omega
 ·rw[h.sq]at g1
  have e:(Ts++[ps.map Pm.put]).length=Ts.length+1:=by simp
  rw[e]
  exact g1
 ·have:=d.runs_puts (wlCmds nb fr bl s (appRecs ps))
  omega
open Go.RowKit
theorem placeC_ok{nb:Nat}(hlo:16<=b)(hfit:f+b<=nb)(hnb:nb<=524288):placeC nb (f:Int) (b:Int)=0:=by
 unfold placeC
 rw[if_neg (by omega),if_neg (by omega)]
theorem format_on{nb:Nat}(hlo:16<=b)(hfit:f+b<=nb)(hf:d.Fits nb)(hon:d.off=false)(hc:(d.runs (formatCmds f b)).1=0):On (d.runs (formatCmds f b)).2 (beginS noS) nb f b 0 d.read []:=by
 obtain⟨_,hm⟩:=format_nm (cont:=contT d.read []) hfit (by omega) hf (fun x _=>rfl) hc
 refine⟨⟨0,d.read,[],0,hm⟩,Pd.runs_on hon hc,rfl,?_⟩
 have:formatCmds f b=(wipes f b f 1++[.fl]++wipes f b (f+1) (b-1)++[.fl]++[.wr f (headZ f b (noS.life+1) noS.seq)])++[.fl]:=rfl
 rw[this]at hc ⊢
 rw[Pd.runs_fl_puts hc]
 exact Nat.zero_le _
open Go.RowKit
open Go.RowKit
open Go.RowKit
open Go.RowKit
def Pm.say (p:Pm):Int×List Int:=(p.at_,p.data)
end Go.Proofs.YtlefjidbpjkhlaaGreat
