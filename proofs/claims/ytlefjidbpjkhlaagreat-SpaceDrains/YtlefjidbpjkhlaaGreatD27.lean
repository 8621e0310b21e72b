import Derived.Test.YtlefjidbpjkhlaaGreatD26
import Derived.Test.YtlefjidbpjkhlaaGreatD21
import Derived.Laws.MakeOwn
import Derived.Maps.OwnSet
set_option maxRecDepth 100000
set_option maxHeartbeats 16000000
namespace Go.Proofs.YtlefjidbpjkhlaaGreat
variable {L ah:Nat->Option (List Int)}
variable {b bl cp f hc i j k lo lo' m n q tc tn x y:Nat}
variable {ps:List Pm}
variable {d:Pd}
variable {s:Js}
variable {Ts ts:List Tn}
variable {w:World}
variable {ha ta:Option Addr}
variable {Z Zw:Nat->Prop}
variable {D:DataW (Nat×Nat×Int)}
variable {mv sv:Value}
open Go.RowKit
theorem aheadP_cons(ah:Nat->Option (List Int))(p:Nat×List Int)(ps:Tn):aheadP ah (p :: ps)=aheadP (fun y=>if y=p.1 then some p.2 else ah y) ps:=rfl
theorem aheadP_away{ps:Tn}(h:∀q∈ps,q.1≠x):aheadP ah ps x=ah x:=by
 induction ps generalizing ah with
 | nil=>rfl
 | cons p ps ih=>
  rw[aheadP_cons,ih (fun q hq=>h q (by simp[hq]))]
  exact if_neg (fun e=>h p (by simp) e.symm)
theorem aheadP_at{ah':Nat->Option (List Int)}(h:ah x=ah' x)(ps:Tn):aheadP ah ps x=aheadP ah' ps x:=by rw[aheadP_or ah,aheadP_or ah',h]
theorem aheadP_set{ps:Tn}{p q:Nat×List Int}(hd:(ps.map Prod.fst).Nodup)(hi:ps[i]?=some q)(hq:q.1=p.1)(ah:Nat->Option (List Int))(x:Nat):aheadP ah (ps.set i p) x=if x=p.1 then some p.2 else aheadP ah ps x:=by
 induction ps generalizing ah i with
 | nil=>cases hi
 | cons a ps ih=>
  rw[List.map_cons,List.nodup_cons]at hd
  cases i with
  | zero=>
   simp at hi
   subst hi
   rw[List.set_cons_zero,aheadP_cons,aheadP_cons]
   by_cases e:x=p.1
   ·rw[if_pos e,aheadP_away (fun r hr er=>hd.1 (by rw[hq,<- e,<- er];exact List.mem_map_of_mem hr)),if_pos e]
   ·rw[if_neg e]
    refine aheadP_at ?_ ps
    rw[if_neg e,if_neg (by rw[hq];exact e)]
  | succ i=>
   rw[List.set_cons_succ,aheadP_cons,aheadP_cons]
   exact ih hd.2 (by simpa using hi) _
def Apart (S:List Pm):Prop:=(S.map Pm.at_).Nodup
theorem Apart.step{S:List Pm}(h:Apart S)(p:Pm):Apart (standStep S p)/\∀a,(∃q∈standStep S p,q.at_=a) ↔ ((∃q∈S,q.at_=a)\/p.at_=a):=by
 cases hf:S.findIdx? (fun q=>q.at_ == p.at_) with
 | some i=>
  obtain⟨e,q,hq,hqa⟩:=standStep_hit hf
  rw[e]
  have hm:(S.set i p).map Pm.at_=S.map Pm.at_:=by
   rw[List.map_set]
   have:(S.map Pm.at_)[i]?=some p.at_:=by rw[List.getElem?_map,hq];simp[hqa]
   apply List.ext_getElem?
   intro t
   by_cases et:i=t
   ·subst et
    rw[List.getElem?_set_self (List.getElem?_eq_some_iff.1 this).1,this]
   ·rw[List.getElem?_set_ne et]
  refine⟨by unfold Apart;rw[hm];exact h,fun a=>?_⟩
  have e1:(∃r∈S.set i p,r.at_=a) ↔ a∈(S.set i p).map Pm.at_:=List.mem_map.symm
  have e2:(∃r∈S,r.at_=a) ↔ a∈S.map Pm.at_:=List.mem_map.symm
  rw[e1,e2,hm]
  refine⟨.inl,fun r=>r.elim id (fun r=>?_)⟩
  rw[<- r,<- hqa]
  exact List.mem_map_of_mem (List.mem_of_getElem? hq)
 | none=>
  obtain⟨e,hno⟩:=standStep_miss hf
  rw[e]
  refine⟨?_,fun a=>?_⟩
  ·unfold Apart
   rw[List.map_append,List.map_cons,List.map_nil,List.nodup_append]
   refine⟨h,by simp,fun a ha b hb=>?_⟩
   simp at hb
   subst hb
   obtain⟨r,hr,rfl⟩:=List.mem_map.1 ha
   exact hno r hr
  ·constructor
   ·rintro ⟨r,hr,hra⟩
    rcases List.mem_append.1 hr with hr | hr
    ·exact .inl ⟨r,hr,hra⟩
    ·simp at hr
     subst hr
     exact .inr hra
   ·rintro (⟨r,hr,hra⟩ | r)
    ·exact⟨r,by simp[hr],hra⟩
    ·exact⟨p,by simp,r⟩
theorem standP_apart(ps:List Pm):Apart (standP ps)/\∀a,(∃q∈standP ps,q.at_=a) ↔ ∃q∈ps,q.at_=a:=by
 have:∀(n:Nat),n<=ps.length->Apart (standP (ps.take n))/\∀a,(∃q∈standP (ps.take n),q.at_=a) ↔ ∃q∈ps.take n,q.at_=a:=by
  intro n
  induction n with
  | zero=>intro _;exact⟨by simp[Apart,standP],fun a=>by simp[standP]⟩
  | succ n ih=>
   intro hn
   obtain⟨h1,h2⟩:=ih (by omega)
   rw[List.take_succ_eq_append_getElem (by omega),standP_snoc]
   obtain⟨h3,h4⟩:=h1.step ps[n]
   refine⟨h3,fun a=>?_⟩
   rw[h4,h2]
   simp only[List.mem_append,List.mem_singleton]
   constructor
   ·rintro (⟨r,hr,e⟩ | e)
    ·exact⟨r,.inl hr,e⟩
    ·exact⟨_,.inr rfl,e⟩
   ·rintro ⟨r,hr | hr,e⟩
    ·exact .inl ⟨r,hr,e⟩
    ·exact .inr (by rw[<- hr];exact e)
 have:=this ps.length (Nat.le_refl _)
 rwa [List.take_length]at this
theorem standP_ahead(h0:∀p∈ps,0<=p.at_)(ah:Nat->Option (List Int)):aheadP ah ((standP ps).map Pm.put)=aheadP ah (ps.map Pm.put):=by
 have:∀(n:Nat),n<=ps.length->aheadP ah ((standP (ps.take n)).map Pm.put)=aheadP ah ((ps.take n).map Pm.put):=by
  intro n
  induction n with
  | zero=>intro _;rfl
  | succ n ih=>
   intro hn
   have ih':=ih (by omega)
   rw[List.take_succ_eq_append_getElem (by omega),standP_snoc,List.map_append]
   show _=aheadP ah (_++[ps[n].put])
   rw[aheadP_snoc,<- ih']
   funext x
   have hp:=h0 ps[n] (List.getElem_mem _)
   have hS:∀q∈standP (ps.take n),0<=q.at_:=fun q hq=>h0 q (List.mem_of_mem_take (standP_mem hq))
   have hap:=(standP_apart (ps.take n)).1
   generalize standP (ps.take n)=S at *
   cases hf:S.findIdx? (fun q=>q.at_ == ps[n].at_) with
   | some i=>
    obtain⟨e,q,hq,hqa⟩:=standStep_hit hf
    rw[e,List.map_set]
    refine aheadP_set (q:=q.put) ?_ (by rw[List.getElem?_map,hq];rfl) (by show q.at_.toNat=ps[n].at_.toNat;rw[hqa]) ah x
    rw[List.map_map]
    unfold Apart at hap
    have e2:S.map (Prod.fst ∘ Pm.put)=(S.map Pm.at_).map Int.toNat:=by rw[List.map_map];rfl
    rw[e2]
    unfold List.Nodup at hap ⊢
    rw[List.pairwise_map]
    refine List.Pairwise.imp_of_mem (fun {a b} ha hb hne=>?_) hap
    obtain⟨r,hr,rfl⟩:=List.mem_map.1 ha
    obtain⟨r',hr',rfl⟩:=List.mem_map.1 hb
    have:=hS r hr
    have:=hS r' hr'
    omega
   | none=>
    obtain⟨e,_⟩:=standStep_miss hf
    rw[e,List.map_append]
    show aheadP ah (_++[ps[n].put]) x=_
    rw[aheadP_snoc]
 have:=this ps.length (Nat.le_refl _)
 rwa [List.take_length]at this
open Go.RowKit
theorem putC_good{nb fr:Nat}{p:Pm}(h:putC nb fr bl p.at_ p.data.length=0)(hb:Pl.isB p.data):p.put.1<nb/\homeC nb fr bl (p.put.1:Int)=0/\p.put.2.length=512/\Pl.isB p.put.2:=by
 obtain⟨h1,h2,h3,h4⟩:=putC_zero h
 have e:((p.at_.toNat:Nat):Int)=p.at_:=by omega
 refine⟨by show p.at_.toNat<nb;omega,?_,h1,hb⟩
 show homeC nb fr bl ((p.at_.toNat:Nat):Int)=0
 rw[e]
 unfold homeC
 rw[if_neg (by omega)]
theorem stand_good{nb fr:Nat}(h:∀p∈ps,putC nb fr bl p.at_ p.data.length=0/\Pl.isB p.data):GoodT nb fr bl ((standP ps).map Pm.put):=fun x hx=>by
 obtain⟨p,hp,rfl⟩:=List.mem_map.1 hx
 exact putC_good (h p (standP_mem hp)).1 (h p (standP_mem hp)).2
theorem after_stand(h0:∀p∈ps,0<=p.at_)(base:Nat->List Int)(ts:List Tn):after base (ts++[(standP ps).map Pm.put])=after base (ts++[ps.map Pm.put]):=by
 funext x
 unfold after
 rw[List.flatten_append,List.flatten_append,aheadP_append,aheadP_append]
 simp only[List.flatten_cons,List.flatten_nil,List.append_nil]
 rw[standP_ahead h0]
theorem Nm.appendP{nb fr:Nat}{base:Nat->List Int}{cont:Nat->Nat->List Int}(h:Nm d s nb fr bl q base ts k lo s.seq cont)(hf:d.Fits nb)(hfit:fr+bl<=nb)(hlo:16<=bl)(hp:∀p∈ps,putC nb fr bl p.at_ p.data.length=0/\Pl.isB p.data)(hk:(standP ps).length<=bl / 2-4)(hsq:s.seq<1099511627776)(c3:∀x,HomeB nb fr bl x->after base (ts++[ps.map Pm.put]) x=cont (s.seq+1) x) :
  G (d.runs (wlCmds nb fr bl s (appRecs ps))).2.poss nb fr bl lo (s.seq+1) cont/\((d.runs (wlCmds nb fr bl s (appRecs ps))).1=0->(d.runs (wlCmds nb fr bl s (appRecs ps))).2.Fits nb/\∃q' base' ts' k',Nm (d.runs (wlCmds nb fr bl s (appRecs ps))).2 (appE bl s ps) nb fr bl q' base' ts' k' lo (s.seq+1) cont):=by
 have hg:=stand_good hp
 have hr:(txRecs ((standP ps).map Pm.put)).length+1<=bl:=by
  unfold txRecs
  rw[length_recsZ,length_bytesZ (fun p hp=>(hg p hp).2.2.1),List.length_map]
  exact recs_fit hlo hk
 exact h.append hf hfit hg hsq hr (fun x hx=>by rw[after_stand (fun p hq=>(putC_zero (hp p hq).1).2.1)];exact c3 x hx)
theorem Nm.jn{nb fr:Nat}{base:Nat->List Int}{hi:Nat}{cont:Nat->Nat->List Int}(h:Nm d s nb fr bl q base ts k lo hi cont)(hlo:16<=bl)(hfit:fr+bl<=nb)(hnb:nb<=524288):Jn nb fr bl s :=
 ⟨hlo,hfit,hnb,h.sole.hd.life,h.seq_le,by have:=h.sole.hd.fit;rw[List.append_nil]at this;rw[h.used];exact this⟩
theorem appE_seq(bl:Nat)(s:Js)(ps:List Pm):(appE bl s ps).seq=s.seq+1:=by
 show (wlE bl s (appRecs ps).length).seq+1=s.seq+1
 rw[wlE_seq]
open Go.RowKit
structure Lg (w:World) (g:Nat) (ha:Option Addr) (nb hc fr bl:Nat) (ta:Option Addr) (tn tc:Nat):Prop where
 blk:w.heap[g]?=some (.cells #[.slice ha (512 * nb) hc,.int .i64 (fr:Int),.int .i64 (bl:Int),.slice ta tn tc] 93 (0,0))
theorem Lg.c0{g:Nat}{nb fr:Nat}(h:Lg w g ha nb hc fr bl ta tn tc):w.cell? ⟨g,0,none⟩=some (.slice ha (512 * nb) hc):=by simp[World.cell?,h.blk]
theorem Lg.c1{g:Nat}{nb fr:Nat}(h:Lg w g ha nb hc fr bl ta tn tc):w.cell? ⟨g,1,none⟩=some (.int .i64 (fr:Int)):=by simp[World.cell?,h.blk]
theorem Lg.c2{g:Nat}{nb fr:Nat}(h:Lg w g ha nb hc fr bl ta tn tc):w.cell? ⟨g,2,none⟩=some (.int .i64 (bl:Int)):=by simp[World.cell?,h.blk]
theorem Lg.c3{g:Nat}{nb fr:Nat}(h:Lg w g ha nb hc fr bl ta tn tc):w.cell? ⟨g,3,none⟩=some (.slice ta tn tc):=by simp[World.cell?,h.blk]
theorem Lg.frozen{g:Nat}{nb fr:Nat}(h:Lg w g ha nb hc fr bl ta tn tc)(t:Nat):w.frozen? ⟨g,t,none⟩=false:=by simp[World.frozen?,h.blk]
open Go.RowKit
open Go.RowKit
def contT (home:Nat->List Int) (Ts:List Tn) (k x:Nat):List Int:=after home (Ts.take k) x
theorem Nm.congr{nb fr:Nat}{base:Nat->List Int}{hi:Nat}{cont cont':Nat->Nat->List Int}(h:Nm d s nb fr bl q base ts k lo hi cont)(hc:∀k x,k<=hi->cont k x=cont' k x):Nm d s nb fr bl q base ts k lo hi cont' :=
 ⟨⟨h.sole.hd,h.sole.head,fun n n1 n2=>⟨(h.sole.cont n n1 n2).1,(h.sole.cont n n1 n2).2.1,fun x hx=>by rw[(h.sole.cont n n1 n2).2.2 x hx,hc _ _ (h.sole.cont n n1 n2).2.1]⟩⟩,h.rd,h.pl,h.l0,h.used,h.seq,h.ah⟩
theorem contT_more(home:Nat->List Int)(Ts us:List Tn)(hk:k<=Ts.length)(x:Nat):contT home Ts k x=contT home (Ts++us) k x:=by
 unfold contT
 rw[List.take_append_of_le_length hk]
structure On (d:Pd) (s:Js) (nb fr bl lo:Nat) (home:Nat->List Int) (Ts:List Tn):Prop where
 nm:∃q base ts k,Nm d s nb fr bl q base ts k lo s.seq (contT home Ts)
 on:d.off=false
 sq:s.seq=Ts.length
 pl:d.puts.length<=s.used
structure Cut (d:Pd) (nb fr bl lo:Nat) (home:Nat->List Int) (Ts:List Tn):Prop where
 g:G d.poss nb fr bl lo Ts.length (contT home Ts)
 pl:d.puts.length<=4 * nb+64
theorem On.jn{nb fr:Nat}{home:Nat->List Int}(h:On d s nb fr bl lo home Ts)(hlo:16<=bl)(hfit:fr+bl<=nb)(hnb:nb<=524288):Jn nb fr bl s:=by
 obtain⟨q,base,ts,k,hn⟩:=h.nm
 exact hn.jn hlo hfit hnb
theorem On.puts{nb fr:Nat}{home:Nat->List Int}(h:On d s nb fr bl lo home Ts)(hlo:16<=bl)(hfit:fr+bl<=nb)(hnb:nb<=524288):d.puts.length<=nb:=by
 have:=(h.jn hlo hfit hnb).used
 have:=h.pl
 omega
theorem On.mono{nb fr:Nat}{home:Nat->List Int}(h:On d s nb fr bl lo home Ts)(hl:lo'<=lo):On d s nb fr bl lo' home Ts:=by
 obtain⟨q,base,ts,k,hn⟩:=h.nm
 exact⟨⟨q,base,ts,k,hn.mono hl (Nat.le_refl _)⟩,h.on,h.sq,h.pl⟩
theorem On.read{nb fr:Nat}{home:Nat->List Int}(h:On d s nb fr bl lo home Ts)(hx:HomeB nb fr bl x):jread d s x=contT home Ts Ts.length x:=by
 obtain⟨q,base,ts,k,hn⟩:=h.nm
 rw[hn.read hx,h.sq]
theorem Pd.runs_fl_puts{xs:List Cmd}(h:(d.runs (xs++[.fl])).1=0):(d.runs (xs++[.fl])).2.puts=[]:=by
 rw[Pd.runs_append]at h ⊢
 by_cases hc:(d.runs xs).1=0
 ·rw[if_pos hc]at h ⊢
  rw[Pd.runs_one]at h ⊢
  rw[Pd.fl_ok h]
 ·rw[if_neg hc]at h
  exact absurd h hc
theorem Pd.runs_on{cs:List Cmd}(hon:d.off=false)(h:(d.runs cs).1=0):(d.runs cs).2.off=false:=by
 rcases d.runs_code cs with ⟨_,h2⟩ | ⟨h1,_⟩
 ·exact h2 hon
 ·rw[h]at h1;cases h1
theorem length_settleCmds(nb fr bl:Nat)(s:Js):(settleCmds nb fr bl s).length<=nb+bl+8:=by
 have h1:=length_homeCmds nb s.ah
 have h2:=length_goCmds fr bl s
 unfold settleCmds
 simp only[List.length_append,List.length_cons,List.length_nil]
 omega
theorem On.settle{nb fr:Nat}{home:Nat->List Int}(h:On d s nb fr bl lo home Ts)(hf:d.Fits nb)(hlo:16<=bl)(hfit:fr+bl<=nb)(hnb:nb<=524288) :
  ((d.runs (settleCmds nb fr bl s)).1=0->On (d.runs (settleCmds nb fr bl s)).2 (goS s) nb fr bl Ts.length home Ts/\(d.runs (settleCmds nb fr bl s)).2.puts=[]/\∀x,HomeB nb fr bl x->imgB (d.runs (settleCmds nb fr bl s)).2.img x=contT home Ts Ts.length x)/\((d.runs (settleCmds nb fr bl s)).1≠0->Cut (d.runs (settleCmds nb fr bl s)).2 nb fr bl lo home Ts):=by
 have hp:=h.puts hlo hfit hnb
 obtain⟨q,base,ts,k,hn⟩:=h.nm
 obtain⟨g1,g2⟩:=hn.settle hf hfit (by omega)
 refine⟨fun hc=>?_,fun hc=>⟨?_,?_⟩⟩
 ·have hpe:(d.runs (settleCmds nb fr bl s)).2.puts=[]:=by
   have:settleCmds nb fr bl s=([.fl]++homeCmds nb s.ah++[.fl]++goCmds fr bl s)++[.fl]:=rfl
   rw[this]at hc ⊢
   exact Pd.runs_fl_puts hc
  have k2:=(g2 hc).2
  refine⟨⟨⟨s.seq,after base ts,[],0,?_⟩,Pd.runs_on h.on hc,?_,?_⟩,hpe,fun x hx=>?_⟩
  ·rw[goS_seq]
   rw[h.sq]at k2 ⊢
   exact k2
  ·rw[goS_seq];exact h.sq
  ·rw[hpe];exact Nat.zero_le _
  ·rw[k2.pl x hx _ (.inl rfl),hn.c2.2.2 x hx,h.sq]
 ·rwa [h.sq]at g1
 ·have:=d.runs_puts (settleCmds nb fr bl s)
  have:=length_settleCmds nb fr bl s
  omega
theorem On.append{nb fr:Nat}{home:Nat->List Int}(h:On d s nb fr bl lo home Ts)(hf:d.Fits nb)(hlo:16<=bl)(hfit:fr+bl<=nb)(hnb:nb<=524288)(hb:∀p∈ps,Pl.isB p.data)(hc0:appC nb fr bl d s ps=0) :
  ((d.runs (wlCmds nb fr bl s (appRecs ps))).1=0->On (d.runs (wlCmds nb fr bl s (appRecs ps))).2 (appE bl s ps) nb fr bl lo home (Ts++[ps.map Pm.put]))/\((d.runs (wlCmds nb fr bl s (appRecs ps))).1≠0->Cut (d.runs (wlCmds nb fr bl s (appRecs ps))).2 nb fr bl lo home (Ts++[ps.map Pm.put])):=by
 have hp:=h.puts hlo hfit hnb
 have hj:=h.jn hlo hfit hnb
 obtain⟨q,base,ts,k,hn⟩:=h.nm
 unfold appC at hc0
 rw[h.on,if_neg (by decide)]at hc0
 have hz:putsC nb fr bl ps=0:=Classical.byContradiction fun q=>by rw[if_pos q]at hc0;exact q hc0
 rw[if_neg (fun q=>q hz)]at hc0
 have hk:¬bl / 2-4<(standP ps).length:=fun q=>by rw[if_pos q]at hc0;cases hc0
 rw[if_neg hk]at hc0
 have hsq:¬1099511627776<=s.seq:=fun q=>by rw[if_pos q]at hc0;cases hc0
 have hps:∀p∈ps,putC nb fr bl p.at_ p.data.length=0:=by
  clear hc0 hk hb
  induction ps with
  | nil=>intro p hp;cases hp
  | cons a ps ih=>
   unfold putsC at hz
   have ha:putC nb fr bl a.at_ a.data.length=0:=Classical.byContradiction fun q=>by rw[if_pos q]at hz;exact q hz
   rw[if_neg (fun q=>q ha)]at hz
   intro p hp
   rcases List.mem_cons.1 hp with rfl | hp
   ·exact ha
   ·exact ih hz p hp
 have hcn:∀k x,k<=s.seq->contT home Ts k x=contT home (Ts++[ps.map Pm.put]) k x:=fun k x hk=>contT_more home Ts _ (by rw[<- h.sq];exact hk) x
 have hn2:=hn.congr hcn
 obtain⟨g1,g2⟩:=hn2.appendP hf hfit hlo (ps:=ps) (fun p hp=>⟨hps p hp,hb p hp⟩) (by omega) (by omega) (fun x hx=>by
  have h1:=hn.c2.2.2 x hx
  rw[<- after_append]
  unfold contT
  rw[h.sq,List.take_of_length_le (by simp)]
  rw[<- after_append]
  unfold after
  cases hq:aheadP (fun _=>none) [List.map Pm.put ps].flatten x with
  | some z=>rfl
  | none=>
   show after base ts x=after home Ts x
   rw[h1]
   unfold contT
   rw[h.sq,List.take_length])
 have hlr:(appRecs ps).length+1<=bl:=by
  have:(appRecs ps).length=pieceN (515 * (standP ps).length)+1:=by
   unfold appRecs
   rw[length_recsZ,length_bytesZ]
   ·simp
   ·intro x hx
    obtain⟨p,hp,rfl⟩:=List.mem_map.1 hx
    exact (putC_zero (hps p (standP_mem hp))).1
  have:=recs_fit hlo (k:=(standP ps).length) (by omega)
  omega
 have hlen:(wlCmds nb fr bl s (appRecs ps)).length<=nb+bl+8+bl:=by
  have h1:=length_settleCmds nb fr bl s
  unfold wlCmds
  rw[List.length_append,length_recCmds]
  split
  ·omega
  ·simp only[List.length_nil];omega
 refine⟨fun hc=>⟨?_,Pd.runs_on h.on hc,?_,?_⟩,fun hc=>⟨?_,?_⟩⟩
 ·obtain⟨q',base',ts',k',hm⟩:=(g2 hc).2
  rw[<- appE_seq bl s ps]at hm
  exact⟨q',base',ts',k',hm⟩
 ·rw[appE_seq,h.sq];simp
 ·show _<=(wlE bl s (appRecs ps).length).used
  unfold wlE wlS
  unfold wlCmds at hc ⊢
  by_cases hu:bl-1<s.used+(appRecs ps).length
  ·rw[if_pos hu]at hc ⊢
   simp only[wlS,if_pos hu]at hc ⊢
   rw[Pd.runs_append]at hc ⊢
   by_cases hs:(d.runs (settleCmds nb fr bl s)).1=0
   ·rw[if_pos hs]at hc ⊢
    have hpe:(d.runs (settleCmds nb fr bl s)).2.puts=[]:=by
     have:settleCmds nb fr bl s=([.fl]++homeCmds nb s.ah++[.fl]++goCmds fr bl s)++[.fl]:=rfl
     rw[this]at hs ⊢
     exact Pd.runs_fl_puts hs
    have:=(d.runs (settleCmds nb fr bl s)).2.runs_puts (recCmds (fr+1+(goS s).used) (goS s).life (appRecs ps))
    rw[hpe,length_recCmds]at this
    simp only[List.length_nil]at this
    omega
   ·rw[if_neg hs]at hc
    exact absurd hc hs
  ·rw[if_neg hu]at hc ⊢
   simp only[wlS,if_neg hu,List.nil_append]at hc ⊢
   have:=d.runs_puts (recCmds (fr+1+s.used) s.life (appRecs ps))
   rw[length_recCmds]at this
   have:=h.pl
   omega
 ·rw[h.sq]at g1
  have e:(Ts++[ps.map Pm.put]).length=Ts.length+1:=by simp
  rw[e]
  exact g1
 ·have:=d.runs_puts (wlCmds nb fr bl s (appRecs ps))
  omega
open Go.RowKit
theorem placeC_ok{nb:Nat}(hlo:16<=b)(hfit:f+b<=nb)(hnb:nb<=524288):placeC nb (f:Int) (b:Int)=0:=by
 unfold placeC
 rw[if_neg (by omega),if_neg (by omega)]
theorem format_on{nb:Nat}(hlo:16<=b)(hfit:f+b<=nb)(hf:d.Fits nb)(hon:d.off=false)(hc:(d.runs (formatCmds f b)).1=0):On (d.runs (formatCmds f b)).2 (beginS noS) nb f b 0 d.read []:=by
 obtain⟨_,hm⟩:=format_nm (cont:=contT d.read []) hfit (by omega) hf (fun x _=>rfl) hc
 refine⟨⟨0,d.read,[],0,hm⟩,Pd.runs_on hon hc,rfl,?_⟩
 have:formatCmds f b=(wipes f b f 1++[.fl]++wipes f b (f+1) (b-1)++[.fl]++[.wr f (headZ f b (noS.life+1) noS.seq)])++[.fl]:=rfl
 rw[this]at hc ⊢
 rw[Pd.runs_fl_puts hc]
 exact Nat.zero_le _
open Go.RowKit
open Go.RowKit
open Go.RowKit
open Go.RowKit
def Pm.say (p:Pm):Int×List Int:=(p.at_,p.data)
open Go.RowKit Go.Deep Go.Maps Go.Sort Go.Shelf
theorem Wq.has_iff{nb fr:Nat}{a:Nat->Option (Nat×Nat×Int)}(h:Wq Z w x j m n nb fr bl D a sv mv L)(z:Int):z∈(homeKeys nb L).map Int.ofNat ↔ Maps.has D (.int .i64 z)=true:=by
 constructor
 ·intro hx
  obtain⟨y,hy,rfl⟩:=List.mem_map.1 hx
  obtain⟨h1,h2⟩:=mem_homeKeys.1 hy
  cases ha:a y with
  | none=>rw[h.non y ha]at h2;cases h2
  | some q=>exact (h.am.hit y q ha).1
 ·intro hx
  by_cases hq:∃y:Nat,(y:Int)=z/\a y≠none
  ·obtain⟨y,rfl,hy⟩:=hq
   cases ha:a y with
   | none=>exact absurd ha hy
   | some q=>
    obtain⟨zs,h1,_,_,h4,_⟩:=h.dat y q.1 q.2.1 q.2.2 ha
    exact List.mem_map.2 ⟨y,mem_homeKeys.2 ⟨h4.1,by rw[h1];rfl⟩,rfl⟩
  ·rw[h.am.miss z (fun y e=>Classical.byContradiction fun q=>hq ⟨y,e,q⟩)]at hx
   cases hx
theorem Wq.sorted{nb fr:Nat}{a:Nat->Option (Nat×Nat×Int)}(h:Wq Z w x j m n nb fr bl D a sv mv L){ss:List Int}(hp:ss.Perm (intKeys D)):ss.mergeSort (fun x y=>decide (x<=y))=(homeKeys nb L).map Int.ofNat/\ss.length=(homeKeys nb L).length:=by
 have hc:CollectedI D (fun _=>false) ((homeKeys nb L).map Int.ofNat):=⟨nodup_homeKeys _ _,fun z=>by rw[h.has_iff z];simp⟩
 have hq:=hc.perm h.mp law3 Tryz.underlying3 (fun _=>rfl)
 have hr:=hp.trans hq.symm
 refine⟨?_,by rw[hr.length_eq];simp⟩
 rw[mergeSort_of_perm_i hr]
 refine List.mergeSort_of_pairwise (List.pairwise_map.2 ?_)
 refine List.Pairwise.imp (fun {x y} q=>?_) (List.Pairwise.filter _ List.pairwise_lt_range)
 show decide (Int.ofNat x<=Int.ofNat y)=true
 simp only[decide_eq_true_eq]
 exact Int.ofNat_le.2 (Nat.le_of_lt q)
theorem Wq.look{nb fr:Nat}{a:Nat->Option (Nat×Nat×Int)}(h:Wq Z w x j m n nb fr bl D a sv mv L){g:Nat}{mk:Int}(hx:y<524288)(ha:a y=some (g,cp,mk)):(Instr.lookup 132 (.map (some m)) (.int .i64 (y:Int)) false).run Tryz.prog w=.ok (.agg #[.slice (some ⟨g,0,none⟩) 512 cp,.int .i64 mk]) w:=by
 obtain⟨v,ps,h1,h2⟩:=h.mp.lookup law3 Tryz.underlying132 (zero214 w) (zd:=.nil) (zp:=[]) rfl (keyOf3 (wf_small (x:=(y:Int)) (by omega) (by omega)))
 rw[(h.am.hit y (g,cp,mk) ha).2]at h2
 rw[wrElem_inv h2]at h1
 exact h1
theorem fld214(a:Option Addr)(n c:Nat)(k:Int)(w:World):(Instr.field 142 (.agg #[.slice a n c,.int .i64 k]) 0).run Tryz.prog w=.ok (.slice a n c) w:=by
 unfold Instr.field
 simp[run_underlying Tryz.underlying142,go_sem,part,asAgg]
def PutOf (Zw:Nat->Prop) (w:World) (p:Pm):Prop:=∃g,p.ad=some ⟨g,0,none⟩/\Zw g/\Own w g 512 p.cap p.data/\Pl.isB p.data/\p.data.length=512
theorem puts_any{nb fr:Nat}{a:Nat->Option (Nat×Nat×Int)}(hW:Wq Zw w x j m n nb fr bl D a sv mv L)(hnb:nb<=524288) :
  Calls Tryz.prog 41 #[.pointer (some ⟨x,0,none⟩)] w fun e w'=>∃g cp qs,e=.returned (.slice (some ⟨g,0,none⟩) (homeKeys nb L).length cp)/\w.heap.size<=g/\g<w'.heap.size/\qs.map Pm.say=(homeKeys nb L).map (fun (y:Nat)=>((y:Int),(L y).getD []))/\w'.ownsRow w.heap.size 144 2 (.slice (some ⟨g,0,none⟩) (homeKeys nb L).length cp) (homeKeys nb L).length (pmCells qs)/\(∀p∈qs,PutOf Zw w p)/\Below w.heap.size w w':=by
 obtain⟨i68,hi68,hz68,hs68,hb68⟩:=info_parts info68
 have hsz:Maps.size D<=524288:=by
  have:=hW.am.cnt
  have:=cntX_le a nb
  omega
 have hln:=hW.mp.len (P:=Tryz.prog) Tryz.underlying132 3
 obtain⟨w0,hmk,hrow0,hgr0⟩:=run_make_own (P:=Tryz.prog) w w.heap.size 87 144 i68 (.agg #[.int .i64 0,.slice none 0 0]) 2 Tryz.underlying87 hi68 hz68 hs68 .i64 .i64 (Maps.size D) (by rw[hb68];omega) (by unfold maxLen;omega) (Nat.le_refl _)
 have k1:=hW.cell 1
 simp at k1
 have b0:Below w.heap.size w w0:=((But.refl (fun _=>False) w).of_grown hgr0 (fun x e _=>by cases e)).below (Nat.le_refl _) (fun _ _ q=>q)
 have HWb:Hid (∀w',Below w.heap.size w w'->w'.cell? ⟨x,1,none⟩=some (.map (some m))/\∀y g cp k,y<nb->a y=some (g,cp,k)->(Instr.lookup 132 (.map (some m)) (.int .i64 (y:Int)) false).run Tryz.prog w'=.ok (.agg #[.slice (some ⟨g,0,none⟩) 512 cp,.int .i64 k]) w'):=fun w' b=>by
  have h':=hW.keep (w':=w') (fun k _ hk=>b.block k hk)
  exact⟨by have:=h'.cell 1;simpa using this,fun y g cp k hy ha=>h'.look (by omega) ha⟩
 have HK:=hid (keysB_any (some m) w0)
 have HS:=hid (sortedB_any m n D wrElem w0 (mapW_keep hW.mp (b0.block m hW.mp.lt)) (by unfold maxLen;omega) (by omega))
 have HSo:Hid (∀ss:List Int,ss.Perm (intKeys D)->ss.mergeSort (fun x y=>decide (x<=y))=(homeKeys nb L).map Int.ofNat/\ss.length=(homeKeys nb L).length):=fun ss hp=>hW.sorted hp
 have HD:Hid (∀y,y∈homeKeys nb L->∃g cp mk zs,y<nb/\a y=some (g,cp,mk)/\L y=some zs/\Zw g/\Own w g 512 cp zs/\Pl.isB zs):=fun y hy=>by
  obtain⟨h1,h2⟩:=mem_homeKeys.1 hy
  cases ha:a y with
  | none=>rw[hW.non y ha]at h2;cases h2
  | some q=>
   obtain⟨zs,e1,e2,e3,e4,e5⟩:=hW.dat y q.1 q.2.1 q.2.2 ha
   exact⟨q.1,q.2.1,q.2.2,zs,e4.1,rfl,e1,e5,e2,e3⟩
 have hlt0:=World.ownsRow.lt hrow0 w.heap.size rfl
 have H0:=hid (And.intro hrow0 (And.intro b0 hlt0.2))
 have k1':w0.cell? ⟨x,1,none⟩=some (.map (some m)):=(b0.cell (p:=⟨x,1,none⟩) hW.lt).trans k1
 clear hW hrow0 hgr0 b0 hlt0
 go_enter Tryz.func41,Tryz.ntmps41
 go_wp2_with fail
 refine Calls.mono HK.out ?_
 rintro e w1 ⟨rfl,rfl⟩
 go_wp2_with fail
 refine Calls.mono HS.out ?_
 rintro e w1 ⟨v,ss,rfl,hperm,hrow,_,b1⟩
 obtain⟨hsr,hln2⟩:=HSo.out ss hperm
 rw[hsr]at hrow
 rw[hln2]at hrow
 obtain⟨av,cv,rfl,_⟩:=owns_slice hrow
 have hkl:=length_homeKeys nb L
 have HR:Hid (∀(i y:Nat),(homeKeys nb L)[i]?=some y->∃gk,av=some ⟨gk,0,none⟩/\w0.heap.size<=gk/\gk<w1.heap.size/\w1.cell? ⟨gk,i,none⟩=some (.int .i64 (y:Int))):=fun i y hx=>by
  have hi:i<(homeKeys nb L).length:=(List.getElem?_eq_some_iff.1 hx).1
  rcases hrow.2 with ⟨_,q⟩ | ⟨gk,cap,cur,q1,q2,_⟩
  ·omega
  ·simp at q1
   have hlt:=(World.ownsRow.lt hrow gk (by rw[q1.1];rfl)).2
   refine⟨gk,q1.1,q2,hlt,?_⟩
   have hcell:=World.ownsRow.cellAt (by rw[q1.1]at hrow;exact hrow) i (by simp;omega)
   rw[hcell]
   simp[hx,encZ]
 have hs0:=H0.out.2.2
 have s1:=b1.size
 have hB1:Below w.heap.size w w1:=H0.out.2.1.trans (b1.mono (Nat.le_of_lt hs0))
 have HB1:=hid hB1
 have H1:=hid (owns_below H0.out.1 b1)
 obtain⟨N,hN⟩:∃N,(homeKeys nb L).length=N:=⟨_,rfl⟩
 rw[hN]at hkl ⊢
 have HN:=hid hN
 clear hsr hln2 hperm hrow b1 HK HS HSo H0 k1 k1' hB1 hln hmk hN
 go_wp2_with fail
 go_loopw [3,19] (fun ov iv wr=>∃(q g' cp':Nat) (qs:List Pm),q<=N/\iv=.int .i64 (q:Int)/\ov=.slice (some ⟨g',0,none⟩) q cp'/\wr.ownsRow w.heap.size 144 2 (.slice (some ⟨g',0,none⟩) q cp') q (pmCells qs)/\(qs.map Pm.say=((homeKeys nb L).take q).map (fun (y:Nat)=>((y:Int),(L y).getD []))/\∀p∈qs,PutOf Zw w p)/\But (fun k=>k=w.heap.size) w1 wr/\(g'=w.heap.size\/w1.heap.size<=g')/\g'<wr.heap.size) (fun _ iv _=>N-(intOf iv).toNat)
 case atStart=>exact⟨0,_,_,[],Nat.zero_le _,rfl,rfl,H1.out,⟨rfl,fun p hp=>by cases hp⟩,But.refl _ _,.inl rfl,by omega⟩
 case round=>
  clear H1
  obtain⟨q,g',cp',qs,hqN,rfl,rfl,hrow,hqs,hbt,hgw,hgl⟩:=hrel
  by_cases hq:q<N
  ·have hq':(q:Int)<(N:Int):=by omega
   obtain⟨y,hy0⟩:∃y,(homeKeys nb L)[q]?=some y:=⟨_,List.getElem?_eq_getElem (by have:=HN.out;omega)⟩
   obtain⟨gk,hav,hgk,hgk1,hck⟩:=HR.out q y hy0
   obtain⟨g,cp,mk,zs,hy,ha,hL,hzg,ho,hzb⟩:=HD.out y (List.mem_of_getElem? hy0)
   have hwr:Below w.heap.size w wr:=((But.of_below HB1.out (X:=fun k=>w.heap.size<=k)).trans (hbt.mono (fun k _ e=>by omega))).below (Nat.le_refl _) (fun k hk r=>by omega)
   have ck:wr.cell? ⟨gk,q,none⟩=some (.int .i64 (y:Int)):=(hbt.cell (p:=⟨gk,q,none⟩) hgk1 (fun r=>by have r2:gk=w.heap.size:=r;omega)).trans hck
   obtain⟨k1,kLs⟩:=HWb.out wr hwr
   have kL:=kLs y g cp mk hy ha
   have hfl:=fld214 (some ⟨g,0,none⟩) 512 cp mk wr
   have HRow2:=hid (owns_below hrow ((Below.refl wr.heap.size wr).alloc (Nat.le_refl _) (.cells #[.int .i64 (y:Int),.slice (some ⟨g,0,none⟩) 512 cp] 144)))
   have HQS:=hid hqs
   have HBT:=hid hbt
   have HV:=hid (And.intro hy0 (And.intro hL (And.intro hzg (And.intro ho hzb))))
   have hws:=hwr.size
   subst hav
   clear hrow hqs hbt hwr hck hy0 ha hL hzg ho hzb kLs HR HD
   go_wp2_with (at_builtin;refine wpList_append_lies _ rfl _ _ _ rfl w.heap.size 144 i68 (.agg #[.int .i64 0,.slice none 0 0]) 2 32 Tryz.underlying87 hi68 hz68 hs68 hb68 rfl (by decide) _ q _ rfl (by exact HRow2.out) ⟨wr.heap.size,0,none⟩ 1 1 [.int .i64 (y:Int),.slice (some ⟨g,0,none⟩) 512 cp] rfl rfl (by exact news2 wr _ _ _) (by intro u hu;simp at hu;rcases hu with rfl | rfl <;> rfl) (by decide) (by unfold maxLen;omega) (by omega) (by simp;omega) (wr.heap.size+1) (by simp) ?_)
   intro g4 cap4 w6 ho4 hg4 hlie4 hl4
   have hg5:(wr.alloc (.cells #[.int .i64 (y:Int),.slice (some ⟨g,0,none⟩) 512 cp] 144)).grownBy w6 (some g'):=hg4
   have hlie5:g'=g4\/g4=wr.heap.size+1:=by
    rcases hlie4 with r | r
    ·exact .inl (by injection r)
    ·exact .inr r
   have bX:But (fun x=>x=g') wr w6:=((But.refl (fun x=>x=g') wr).alloc (.cells #[.int .i64 (y:Int),.slice (some ⟨g,0,none⟩) 512 cp] 144)).of_grown hg5 (fun x e _=>by injection e with e;exact e.symm)
   have b6:But (fun k=>k=w.heap.size) w1 w6:=HBT.out.comp bX (fun z hz e=>by rcases hgw with r | r <;> omega)
   have FIN0:=hid (And.intro ho4 (And.intro hlie5 (And.intro b6 hl4)))
   clear ho4 hg4 hg5 hlie4 hlie5 bX b6 hl4 hfl
   have FIN:Hid (w6.ownsRow w.heap.size 144 2 (.slice (some ⟨g4,0,none⟩) (q+1) cap4) (q+1) (pmCells (qs++[⟨(y:Int),some ⟨g,0,none⟩,cp,zs⟩]))/\((qs++[(⟨(y:Int),some ⟨g,0,none⟩,cp,zs⟩:Pm)]).map Pm.say=((homeKeys nb L).take (q+1)).map (fun (y:Nat)=>((y:Int),(L y).getD []))/\∀p∈qs++[(⟨(y:Int),some ⟨g,0,none⟩,cp,zs⟩:Pm)],PutOf Zw w p)/\But (fun k=>k=w.heap.size) w1 w6/\(g4=w.heap.size\/w1.heap.size<=g4)/\g4<w6.heap.size):=by
    obtain⟨hy0,hL,hzg,ho,hzb⟩:=HV.out
    have hzl:zs.length=512:=ho.len
    refine⟨?_,⟨?_,fun p hp=>?_⟩,FIN0.out.2.2.1,?_,FIN0.out.2.2.2⟩
    ·rw[pmCells_snoc]
     simp only
     rw[hzl]
     exact FIN0.out.1
    ·rw[List.map_append,HQS.out.1,List.take_add_one,hy0,List.map_append]
     show _++[((y:Int),zs)]=_++[((y:Int),(L y).getD [])]
     rw[hL]
     rfl
    ·rcases List.mem_append.1 hp with hp | hp
     ·exact HQS.out.2 p hp
     ·simp only[List.mem_singleton]at hp
      subst hp
      exact⟨g,rfl,hzg,ho,hzb,hzl⟩
    ·have:=HBT.out.size
     rcases FIN0.out.2.1 with e4 | e4
     ·rw[<- e4];exact hgw
     ·right;omega
   clear FIN0 HRow2 HBT HQS HV k1 kL ck HWb
   go_wp2_with fail
   go_roundw
   case rel=>exact⟨q+1,g4,cap4,_,by omega,by go_num,rfl,FIN.out.1,FIN.out.2.1,FIN.out.2.2⟩
   case measure=>simp[intOf];omega
  ·have hq':¬(q:Int)<(N:Int):=by omega
   have hqe:q=N:=by omega
   subst hqe
   have hglt:=World.ownsRow.lt hrow g' rfl
   have FIN:Hid (w.heap.size<=g'/\g'<wr.heap.size/\qs.map Pm.say=(homeKeys nb L).map (fun (y:Nat)=>((y:Int),(L y).getD []))/\wr.ownsRow w.heap.size 144 2 (.slice (some ⟨g',0,none⟩) q cp') q (pmCells qs)/\(∀p∈qs,PutOf Zw w p)/\Below w.heap.size w wr):=by
    refine⟨hglt.1,hgl,by rw[hqs.1,List.take_of_length_le (by rw[<- HN.out];exact Nat.le_refl _)],hrow,hqs.2,((But.of_below HB1.out (X:=fun k=>w.heap.size<=k)).trans (hbt.mono (fun k _ e=>by omega))).below (Nat.le_refl _) (fun k hk r=>by omega)⟩
   clear hrow hqs hbt HWb HR HD
   go_wp2
   go_ret
   rw[HN.out]
   exact⟨g',cp',by rfl,FIN.out.1,FIN.out.2.1,qs,FIN.out.2.2⟩
end Go.Proofs.YtlefjidbpjkhlaaGreat
