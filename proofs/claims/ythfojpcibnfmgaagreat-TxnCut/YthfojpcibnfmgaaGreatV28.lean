import Derived.Test.YthfojpcibnfmgaaGreatV27
set_option maxRecDepth 100000
set_option maxHeartbeats 16000000
namespace Go.Proofs.YthfojpcibnfmgaaGreat
variable {d:Pd}
variable {bl fr hc hi' i k l lo lo' nb q tc tn x:Nat}
variable {ex ts:List Tn}
variable {fu:Int}
variable {off:Bool}
variable {I J:Pd->Prop}
variable {ah:Nat->Option (List Int)}
variable {w:World}
variable {ha ta:Option Addr}
open Go.RowKit
theorem Sole.mono{base:Nat->List Int}{hi:Nat}{cont:Nat->Nat->List Int}(h:Sole d nb fr bl l q base ts ex k lo hi cont)(h1:lo'<=lo)(h2:hi<=hi'):Sole d nb fr bl l q base ts ex k lo' hi' cont :=
 ⟨h.hd,h.head,fun n n1 n2=>⟨by have:=(h.cont n n1 n2).1;omega,by have:=(h.cont n n1 n2).2.1;omega,(h.cont n n1 n2).2.2⟩⟩
theorem Nm.mono{s:Js}{base:Nat->List Int}{hi:Nat}{cont:Nat->Nat->List Int}(h:Nm d s nb fr bl q base ts k lo hi cont)(h1:lo'<=lo)(h2:hi<=hi'):Nm d s nb fr bl q base ts k lo' hi' cont :=
 ⟨h.sole.mono h1 h2,h.rd,h.pl,h.l0,h.used,h.seq,h.ah⟩
theorem Nm.g{s:Js}{base:Nat->List Int}{hi:Nat}{cont:Nat->Nat->List Int}(h:Nm d s nb fr bl q base ts k lo hi cont):G d.poss nb fr bl lo hi cont:=h.sole.g
theorem Nm.good{s:Js}{base:Nat->List Int}{hi:Nat}{cont:Nat->Nat->List Int}(h:Nm d s nb fr bl q base ts k lo hi cont):∀t∈ts,GoodT nb fr bl t:=fun t ht=>h.sole.hd.good t (by simp[ht])
theorem Nm.c2{s:Js}{base:Nat->List Int}{hi:Nat}{cont:Nat->Nat->List Int}(h:Nm d s nb fr bl q base ts k lo hi cont):lo<=s.seq/\s.seq<=hi/\∀x,HomeB nb fr bl x->after base ts x=cont s.seq x:=by
 have:=h.sole.cont ts.length h.sole.hd.kle (Nat.le_refl _)
 rw[<- h.seq,List.take_length]at this
 exact this
theorem Nm.seq_le{s:Js}{base:Nat->List Int}{hi:Nat}{cont:Nat->Nat->List Int}(h:Nm d s nb fr bl q base ts k lo hi cont):s.seq<=1099511627776:=by
 have:=h.sole.hd.seq
 rw[List.append_nil]at this
 have:=h.seq
 omega
theorem Nm.flush{s:Js}{base:Nat->List Int}{hi:Nat}{cont:Nat->Nat->List Int}(h:Nm d s nb fr bl q base ts k lo hi cont)(hf:d.Fits nb):G (d.runs [.fl]).2.poss nb fr bl lo hi cont/\((d.runs [.fl]).1=0->(d.runs [.fl]).2.Fits nb/\Nm (d.runs [.fl]).2 s nb fr bl q base ts ts.length s.seq hi cont):=by
 rw[Pd.runs_one]
 rcases d.run1_code .fl with ⟨h1,_⟩ | ⟨h1,h2⟩
 ·have hs:=h.sole.flush hf h.rd h1
  refine⟨hs.g,fun _=>⟨hf.run1 trivial,⟨⟨hs.hd,hs.head,fun n n1 n2=>?_⟩,fun i r hr=>?_,h.pl.fl hf h1,h.l0,h.used,h.seq,h.ah⟩⟩⟩
  ·have:=hs.cont n n1 n2
   exact⟨by have:=h.seq;omega,this.2⟩
  ·rw[Pd.read_fl hf h1]
   exact h.rd i r hr
 ·rw[h2]
  exact⟨h.g,fun q=>by omega⟩
theorem Nm.settle{s:Js}{base:Nat->List Int}{hi:Nat}{cont:Nat->Nat->List Int}(h:Nm d s nb fr bl q base ts k lo hi cont)(hf:d.Fits nb)(hfit:fr+bl<=nb)(hbl:1<=bl):G (d.runs (settleCmds nb fr bl s)).2.poss nb fr bl lo hi cont/\((d.runs (settleCmds nb fr bl s)).1=0->(d.runs (settleCmds nb fr bl s)).2.Fits nb/\Nm (d.runs (settleCmds nb fr bl s)).2 (goS s) nb fr bl s.seq (after base ts) [] 0 s.seq s.seq cont):=by
 obtain⟨h1,h2⟩:=settle_step s hfit hbl h.good h.seq h.seq_le h.ah h.c2 d hf ⟨h.sole,h.rd⟩
 exact⟨h1,fun q=>⟨(h2 q).2,(h2 q).1.nm⟩⟩
def appS (bl:Nat) (s:Js) (t:Tn):Js:=⟨(wlE bl s (txRecs t).length).life,(wlE bl s (txRecs t).length).seq+1,(wlE bl s (txRecs t).length).used,aheadP (wlE bl s (txRecs t).length).ah t⟩
theorem Nm.put{s:Js}{base:Nat->List Int}{cont:Nat->Nat->List Int}(h:Nm d s nb fr bl q base ts k lo s.seq cont)(hf:d.Fits nb)(hfit:fr+bl<=nb){t:Tn}(ht:GoodT nb fr bl t)(hsq:s.seq<1099511627776)(hroom:s.used+(txRecs t).length+1<=bl)(c3:∀x,HomeB nb fr bl x->after base (ts++[t]) x=cont (s.seq+1) x) :
  G (d.runs (recCmds (fr+1+s.used) s.life (txRecs t))).2.poss nb fr bl lo (s.seq+1) cont/\((d.runs (recCmds (fr+1+s.used) s.life (txRecs t))).1=0->(d.runs (recCmds (fr+1+s.used) s.life (txRecs t))).2.Fits nb/\Nm (d.runs (recCmds (fr+1+s.used) s.life (txRecs t))).2 ⟨s.life,s.seq+1,s.used+(txRecs t).length,aheadP s.ah t⟩ nb fr bl q base (ts++[t]) k lo (s.seq+1) cont):=by
 have hwl:(wantsL (ts++[t])).length=s.used+(txRecs t).length:=by rw[wantsL_snoc,List.length_append,h.used]
 have hsq2:=h.seq
 have hs0:Sole d nb fr bl s.life q base (ts++[t]) [] k lo (s.seq+1) cont:=by
  refine⟨h.sole.hd.more h.l0 h.pl ht (by omega) (by omega),h.sole.head,fun n n1 n2=>?_⟩
  rw[List.length_append,List.length_singleton]at n2
  by_cases e:n<=ts.length
  ·rw[List.take_append_of_le_length e]
   have:=h.sole.cont n n1 e
   exact⟨this.1,by omega,this.2.2⟩
  ·have e2:n=ts.length+1:=by omega
   subst e2
   rw[List.take_of_length_le (by simp),show q+(ts.length+1)=s.seq+1 by omega]
   exact⟨by have:=h.c2.1;omega,Nat.le_refl _,c3⟩
 have hg:∀x∈ts++[t],GoodT nb fr bl x:=fun x hx=>by
  rcases List.mem_append.1 hx with hx | hx
  ·exact h.good x hx
  ·simp at hx
   rw[hx]
   exact ht
 have hst:=rec_step (nb:=nb) (fr:=fr) (bl:=bl) (l:=s.life) (q:=q) (u:=s.used) (base:=base) (tt:=ts++[t]) (k:=k) (lo:=lo) (hi:=s.seq+1) (cont:=cont) (a:=wantsL ts) (rs:=txRecs t) hfit hg (wantsL_snoc ts t) h.used.symm (by omega)
 obtain⟨r1,r2⟩:=hst d hf ⟨⟨hs0,h.pl⟩,fun i r hi hr=>by
  rw[take_get ⟨txRecs t,wantsL_snoc ts t⟩ (by rw[<- h.used];exact hi)]at hr
  exact h.rd i r hr⟩
 refine⟨r1,fun hc=>⟨(r2 hc).2,⟨(r2 hc).1.1.1,(r2 hc).1.2,(r2 hc).1.1.2,h.l0,hwl.symm,by simp;omega,?_⟩⟩⟩
 show aheadP s.ah t=_
 rw[h.ah,List.flatten_append,aheadP_append]
 simp
theorem Nm.append{s:Js}{base:Nat->List Int}{cont:Nat->Nat->List Int}(h:Nm d s nb fr bl q base ts k lo s.seq cont)(hf:d.Fits nb)(hfit:fr+bl<=nb){t:Tn}(ht:GoodT nb fr bl t)(hsq:s.seq<1099511627776)(hroom:(txRecs t).length+1<=bl)(c3:∀x,HomeB nb fr bl x->after base (ts++[t]) x=cont (s.seq+1) x) :
  G (d.runs (wlCmds nb fr bl s (txRecs t))).2.poss nb fr bl lo (s.seq+1) cont/\((d.runs (wlCmds nb fr bl s (txRecs t))).1=0->(d.runs (wlCmds nb fr bl s (txRecs t))).2.Fits nb/\∃q' base' ts' k',Nm (d.runs (wlCmds nb fr bl s (txRecs t))).2 (appS bl s t) nb fr bl q' base' ts' k' lo (s.seq+1) cont):=by
 unfold wlCmds appS wlE wlS
 by_cases hb:bl-1<s.used+(txRecs t).length
 ·simp only[if_pos hb]
  obtain⟨h1,h2⟩:=h.settle hf hfit (by omega)
  have h2':=(goS_l0 s).2.1
  rw[Pd.runs_append]
  by_cases hc:(d.runs (settleCmds nb fr bl s)).1=0
  ·simp only[if_pos hc]
   obtain⟨f2,n2⟩:=h2 hc
   have n2':Nm (d.runs (settleCmds nb fr bl s)).2 (goS s) nb fr bl s.seq (after base ts) [] 0 s.seq (goS s).seq cont:=by rw[goS_seq];exact n2
   obtain⟨p1,p2⟩:=n2'.put f2 hfit ht (by rw[goS_seq];exact hsq) (by rw[h2'];omega) (fun x hx=>by rw[goS_seq,<- c3 x hx,List.nil_append,after_append])
   rw[goS_seq]at p1 p2
   exact⟨p1.mono h.c2.1 (Nat.le_refl _),fun q=>⟨(p2 q).1,_,_,_,_,by rw[goS_seq];exact ((p2 q).2).mono h.c2.1 (Nat.le_refl _)⟩⟩
  ·simp only[if_neg hc]
   exact⟨h1.mono (Nat.le_refl _) (by omega),fun q=>absurd q hc⟩
 ·simp only[if_neg hb,List.nil_append]
  obtain⟨p1,p2⟩:=h.put hf hfit ht hsq (by omega) c3
  exact⟨p1,fun q=>⟨(p2 q).1,_,_,_,_,(p2 q).2⟩⟩
open Go.RowKit
theorem Nm.read{s:Js}{base:Nat->List Int}{hi:Nat}{cont:Nat->Nat->List Int}(h:Nm d s nb fr bl q base ts k lo hi cont)(hx:HomeB nb fr bl x):jread d s x=cont s.seq x:=by
 unfold jread
 rw[h.ah,h.pl x hx _ (d.poss_read x)]
 exact h.c2.2.2 x hx
theorem G.open{P:Nat->List Int->Prop}{hi:Nat}{cont:Nat->Nat->List Int}(h:G P nb fr bl lo hi cont)(hnb:nb<=524288)(hbl:fr+bl<=nb)(hb1:1<=bl){I:List Int}(hI:∀x,x<nb->P x (imgB I x))(hf:(⟨I,[],fu,off⟩:Pd).Fits nb) :
  ∃l q,headAt fr bl ((⟨I,[],fu,off⟩:Pd).read fr)=some (l,q)/\NoOther fr bl (openS nb fr bl ⟨I,[],fu,off⟩ l q) ⟨I,[],fu,off⟩/\lo<=(openS nb fr bl ⟨I,[],fu,off⟩ l q).seq/\(openS nb fr bl ⟨I,[],fu,off⟩ l q).seq<=hi /\
   G ((⟨I,[],fu,off⟩:Pd).runs (settleCmds nb fr bl (openS nb fr bl ⟨I,[],fu,off⟩ l q))).2.poss nb fr bl (openS nb fr bl ⟨I,[],fu,off⟩ l q).seq (openS nb fr bl ⟨I,[],fu,off⟩ l q).seq cont /\
   (((⟨I,[],fu,off⟩:Pd).runs (settleCmds nb fr bl (openS nb fr bl ⟨I,[],fu,off⟩ l q))).1=0->((⟨I,[],fu,off⟩:Pd).runs (settleCmds nb fr bl (openS nb fr bl ⟨I,[],fu,off⟩ l q))).2.Fits nb/\∃base',Nm ((⟨I,[],fu,off⟩:Pd).runs (settleCmds nb fr bl (openS nb fr bl ⟨I,[],fu,off⟩ l q))).2 (goS (openS nb fr bl ⟨I,[],fu,off⟩ l q)) nb fr bl (openS nb fr bl ⟨I,[],fu,off⟩ l q).seq base' [] 0 (openS nb fr bl ⟨I,[],fu,off⟩ l q).seq (openS nb fr bl ⟨I,[],fu,off⟩ l q).seq cont):=by
 obtain⟨l,q,base,ts,ex,k,e1,e2,e3⟩:=h _ (hI fr (by omega))
 have hrd:∀x,(⟨I,[],fu,off⟩:Pd).read x=imgB I x:=fun x=>rfl
 obtain⟨n,n1,n2,n3,n4,n5,n6⟩:=e2.found hnb hbl (rd:=imgB I) hI
 have hq:=e2.seq
 rw[List.length_append]at hq
 have eO:openS nb fr bl ⟨I,[],fu,off⟩ l q=⟨l,q+n,(wantsL (ts.take n)).length,aheadP (fun _=>none) (ts.take n).flatten⟩:=n3
 have hP:∀x v,(⟨I,[],fu,off⟩:Pd).poss x v ↔ v=imgB I x:=fun x v=>poss_new I fu off x v
 have hc:=e3 n n1 n2
 have hle:(ts.take n).length=n:=by rw[List.length_take];omega
 have hS:Sole ⟨I,[],fu,off⟩ nb fr bl l q base (ts.take n) ((ts++ex).drop n) n (q+n) (q+n) cont:=by
  refine⟨n6.sub (fun x v _ hv=>(hP x v).1 hv),fun v hv=>by rw[(hP fr v).1 hv];exact e1,fun m m1 m2=>?_⟩
  have:m=n:=by omega
  subst this
  rw[List.take_take,Nat.min_self]
  exact⟨Nat.le_refl _,Nat.le_refl _,hc.2.2⟩
 refine⟨l,q,?_,?_,?_,?_,?_⟩
 ·rw[hrd,e1]
  exact headAt_head (by omega) (by omega) (by omega) e2.life
 ·rw[eO]
  exact n4
 ·rw[eO];exact hc.1
 ·rw[eO];exact hc.2.1
 ·rw[eO]
  have hst:=settle_step (nb:=nb) (fr:=fr) (bl:=bl) (q:=q) (base:=base) (ts:=ts.take n) (ex:=(ts++ex).drop n) (k:=n) (lo:=q+n) (hi:=q+n) (cont:=cont) ⟨l,q+n,(wantsL (ts.take n)).length,aheadP (fun _=>none) (ts.take n).flatten⟩ hbl hb1 (fun t ht=>e2.good t (by simp[List.mem_of_mem_take ht])) (by rw[hle]) (by show q+n<=_;omega) rfl ⟨Nat.le_refl _,Nat.le_refl _,hc.2.2⟩ ⟨I,[],fu,off⟩ hf ⟨hS,fun i r hr=>?_⟩
  ·exact⟨hst.1,fun q=>⟨(hst.2 q).2,_,(hst.2 q).1.nm⟩⟩
  ·have hi:=(List.getElem?_eq_some_iff.1 hr).1
   obtain⟨r',hr',e⟩:=hS.hd.dur i (by rw[List.take_take,Nat.min_self];exact hi) _ ((hP _ _).2 rfl)
   rw[take_get ⟨wantsL ((ts++ex).drop n),by unfold wantsL;rw[List.flatMap_append]⟩ hi,hr]at hr'
   cases hr'
   exact e
open Go.RowKit
theorem Nm.again{s:Js}{base:Nat->List Int}{hi:Nat}{cont:Nat->Nat->List Int}(h:Nm d s nb fr bl q base ts k lo hi cont)(hnb:nb<=524288)(hbl:fr+bl<=nb) :
  headAt fr bl (d.read fr)=some (s.life,q)/\openS nb fr bl d s.life q=s/\NoOther fr bl s d:=by
 have hq:=h.seq_le
 have hsq:=h.seq
 have hfit:=h.sole.hd.fit
 have h1:Hd (fun x v=>v=d.read x) nb fr bl s.life q base ts [] ts.length:=(h.sole.hd.sub (fun x v _ e=>by rw[e];exact d.poss_read x)).lasts (fun i r hr v hv=>by rw[hv];exact h.rd i r hr)
 obtain⟨n,n1,n2,n3,n4,_⟩:=h1.found hnb hbl (rd:=d.read) (fun x _=>rfl)
 have hn:n=ts.length:=by omega
 subst hn
 rw[List.take_length]at n3 n4
 have e:(⟨s.life,q+ts.length,(wantsL ts).length,aheadP (fun _=>none) ts.flatten⟩:Js)=s:=by
  rw[<- h.seq,<- h.used,<- h.ah]
 rw[e]at n3
 refine⟨?_,n3,fun i hi1 hi2=>n4 i (by rw[<- h.used];exact hi1) hi2⟩
 rw[h.sole.head _ (d.poss_read fr)]
 exact headAt_head (by omega) (by omega) (by omega) h.sole.hd.life
theorem wipe_step{from_ count:Nat}{base:Nat->List Int}(hin:∀j,j<count->fr<=from_+j/\from_+j<fr+bl)(hfit:fr+bl<=nb)(hI:∀d,I d->∀x,HomeB nb fr bl x->d.read x=base x) :
  Step nb (fun _=>True) I (wipes fr bl from_ count) (fun d=>(∀x,HomeB nb fr bl x->d.read x=base x)/\∀m,m<count->d.read (from_+m)=blankZ fr bl):=by
 have hwl:(wipes fr bl from_ count).length=count:=by simp[wipes]
 refine Step.mono (Step.each (I:=fun j d=>(∀x,HomeB nb fr bl x->d.read x=base x)/\∀m,m<j->d.read (from_+m)=blankZ fr bl) (fun _ _ _ _=>trivial) (fun k c hk=>?_)) (fun d h=>⟨hI d h,fun m hm=>by omega⟩) (fun d h=>⟨h.1,fun m hm=>h.2 m (by rw[hwl];exact hm)⟩)
 unfold wipes at hk
 rw[List.getElem?_map]at hk
 cases hx:(List.range count)[k]? with
 | none=>rw[hx]at hk;cases hk
 | some x=>
  rw[hx]at hk
  simp only[Option.map_some,Option.some.injEq]at hk
  obtain⟨hkl,hkx⟩:=List.getElem?_eq_some_iff.1 hx
  rw[List.getElem_range]at hkx
  rw[List.length_range]at hkl
  subst hkx
  subst hk
  have hkk:=hin k hkl
  refine⟨ok_blank (by omega),fun d hf h hcc=>⟨fun x hx=>?_,fun m hm=>?_⟩⟩
  ·rw[Pd.read_wr hcc,if_neg (fun e=>hx.2 (by omega))]
   exact h.1 x hx
  ·rw[Pd.read_wr hcc]
   by_cases em:m=k
   ·rw[em,if_pos rfl]
   ·rw[if_neg (by omega)]
    exact h.2 m (by omega)
theorem flush_step(h:∀d d':Pd,I d->(∀x,d'.read x=d.read x)->J d'):Step nb (fun _=>True) I [.fl] J:=Step.one trivial (fun _ _ _=>trivial) (fun d hf hi hc=>h d _ hi (fun x=>Pd.read_fl hf hc x)) (fun _ _ _=>trivial)
theorem format_nm{cont:Nat->Nat->List Int}(hfit:fr+bl<=nb)(hbl:1<=bl)(hf:d.Fits nb)(c0:∀x,HomeB nb fr bl x->d.read x=cont 0 x)(hc:(d.runs (formatCmds fr bl)).1=0):(d.runs (formatCmds fr bl)).2.Fits nb/\Nm (d.runs (formatCmds fr bl)).2 (beginS noS) nb fr bl 0 d.read [] 0 0 0 cont:=by
 have key:Step nb (fun _=>True) (fun d'=>d'=d) (formatCmds fr bl) (fun d'=>(∀x v,d'.poss x v->v=d'.read x)/\(∀x,HomeB nb fr bl x->d'.read x=d.read x)/\(∀m,m<bl-1->d'.read (fr+1+m)=blankZ fr bl)/\d'.read fr=headZ fr bl 1 0):=by
  unfold formatCmds
  refine Step.seq (J:=fun d'=>((∀x,HomeB nb fr bl x->d'.read x=d.read x)/\∀m,m<bl-1->d'.read (fr+1+m)=blankZ fr bl)/\d'.read fr=headZ fr bl 1 0) (Step.seq (J:=fun d'=>(∀x,HomeB nb fr bl x->d'.read x=d.read x)/\∀m,m<bl-1->d'.read (fr+1+m)=blankZ fr bl) (Step.seq (Step.seq (Step.seq (wipe_step (base:=d.read) (fun j hj=>⟨by omega,by omega⟩) hfit (fun d' e x _=>by rw[e])) (flush_step (J:=fun d'=>∀x,HomeB nb fr bl x->d'.read x=d.read x) (fun a b h e x hx=>by rw[e];exact h.1 x hx))) (wipe_step (base:=d.read) (fun j hj=>⟨by omega,by omega⟩) hfit (fun d' h=>h))) (flush_step (fun a b h e=>⟨fun x hx=>by rw[e];exact h.1 x hx,fun m hm=>by rw[e];exact h.2 m hm⟩))) ?_) ?_
  ·refine Step.one (ok_head (by omega)) (fun _ _ _=>trivial) (fun a _ h hcc=>⟨⟨fun x hx=>?_,fun m hm=>?_⟩,?_⟩) (fun _ _ _=>trivial)
   ·rw[Pd.read_wr hcc,if_neg (fun e=>hx.2 (by omega))]
    exact h.1 x hx
   ·rw[Pd.read_wr hcc,if_neg (by omega)]
    exact h.2 m hm
   ·rw[Pd.read_wr hcc,if_pos rfl]
    rfl
  ·refine Step.one trivial (fun _ _ _=>trivial) (fun a hfa h hcc=>⟨fun x v hv=>?_,fun x hx=>?_,fun m hm=>?_,?_⟩) (fun _ _ _=>trivial)
   ·rw[(Pd.poss_fl hfa hcc x v).1 hv,Pd.read_fl hfa hcc]
   ·rw[Pd.read_fl hfa hcc];exact h.1.1 x hx
   ·rw[Pd.read_fl hfa hcc];exact h.1.2 m hm
   ·rw[Pd.read_fl hfa hcc];exact h.2
 obtain⟨⟨k1,k2,k3,k4⟩,k5⟩:=(key d hf rfl).2 hc
 refine⟨k5,⟨⟨Hd.empty (by decide) (by decide) hbl (fun i hi v hv=>?_) (fun x hx v hv=>?_),fun v hv=>?_,fun n _ n2=>?_⟩,fun i r hr=>by simp[wantsL]at hr,fun x hx v hv=>?_,by decide,rfl,rfl,rfl⟩⟩
 ·rw[k1 _ v hv,k3 i hi]
  exact oldAt_blank _ _ _
 ·rw[k1 x v hv];exact k2 x hx
 ·rw[k1 fr v hv];exact k4
 ·have:n=0:=by simpa using n2
  subst this
  exact⟨Nat.le_refl _,Nat.le_refl _,fun x hx=>c0 x hx⟩
 ·rw[k1 x v hv];exact k2 x hx
open Go.RowKit
theorem aheadP_cons(ah:Nat->Option (List Int))(p:Nat×List Int)(ps:Tn):aheadP ah (p :: ps)=aheadP (fun y=>if y=p.1 then some p.2 else ah y) ps:=rfl
theorem aheadP_away{ps:Tn}(h:∀q∈ps,q.1≠x):aheadP ah ps x=ah x:=by
 induction ps generalizing ah with
 | nil=>rfl
 | cons p ps ih=>
  rw[aheadP_cons,ih (fun q hq=>h q (by simp[hq]))]
  exact if_neg (fun e=>h p (by simp) e.symm)
theorem aheadP_at{ah':Nat->Option (List Int)}(h:ah x=ah' x)(ps:Tn):aheadP ah ps x=aheadP ah' ps x:=by rw[aheadP_or ah,aheadP_or ah',h]
theorem aheadP_set{ps:Tn}{p q:Nat×List Int}(hd:(ps.map Prod.fst).Nodup)(hi:ps[i]?=some q)(hq:q.1=p.1)(ah:Nat->Option (List Int))(x:Nat):aheadP ah (ps.set i p) x=if x=p.1 then some p.2 else aheadP ah ps x:=by
 induction ps generalizing ah i with
 | nil=>cases hi
 | cons a ps ih=>
  rw[List.map_cons,List.nodup_cons]at hd
  cases i with
  | zero=>
   simp at hi
   subst hi
   rw[List.set_cons_zero,aheadP_cons,aheadP_cons]
   by_cases e:x=p.1
   ·rw[if_pos e,aheadP_away (fun r hr er=>hd.1 (by rw[hq,<- e,<- er];exact List.mem_map_of_mem hr)),if_pos e]
   ·rw[if_neg e]
    refine aheadP_at ?_ ps
    rw[if_neg e,if_neg (by rw[hq];exact e)]
  | succ i=>
   rw[List.set_cons_succ,aheadP_cons,aheadP_cons]
   exact ih hd.2 (by simpa using hi) _
def Apart (S:List Pm):Prop:=(S.map Pm.at_).Nodup
theorem Apart.step{S:List Pm}(h:Apart S)(p:Pm):Apart (standStep S p)/\∀a,(∃q∈standStep S p,q.at_=a) ↔ ((∃q∈S,q.at_=a)\/p.at_=a):=by
 cases hf:S.findIdx? (fun q=>q.at_ == p.at_) with
 | some i=>
  obtain⟨e,q,hq,hqa⟩:=standStep_hit hf
  rw[e]
  have hm:(S.set i p).map Pm.at_=S.map Pm.at_:=by
   rw[List.map_set]
   have:(S.map Pm.at_)[i]?=some p.at_:=by rw[List.getElem?_map,hq];simp[hqa]
   apply List.ext_getElem?
   intro t
   by_cases et:i=t
   ·subst et
    rw[List.getElem?_set_self (List.getElem?_eq_some_iff.1 this).1,this]
   ·rw[List.getElem?_set_ne et]
  refine⟨by unfold Apart;rw[hm];exact h,fun a=>?_⟩
  have e1:(∃r∈S.set i p,r.at_=a) ↔ a∈(S.set i p).map Pm.at_:=List.mem_map.symm
  have e2:(∃r∈S,r.at_=a) ↔ a∈S.map Pm.at_:=List.mem_map.symm
  rw[e1,e2,hm]
  refine⟨.inl,fun r=>r.elim id (fun r=>?_)⟩
  rw[<- r,<- hqa]
  exact List.mem_map_of_mem (List.mem_of_getElem? hq)
 | none=>
  obtain⟨e,hno⟩:=standStep_miss hf
  rw[e]
  refine⟨?_,fun a=>?_⟩
  ·unfold Apart
   rw[List.map_append,List.map_cons,List.map_nil,List.nodup_append]
   refine⟨h,by simp,fun a ha b hb=>?_⟩
   simp at hb
   subst hb
   obtain⟨r,hr,rfl⟩:=List.mem_map.1 ha
   exact hno r hr
  ·constructor
   ·rintro ⟨r,hr,hra⟩
    rcases List.mem_append.1 hr with hr | hr
    ·exact .inl ⟨r,hr,hra⟩
    ·simp at hr
     subst hr
     exact .inr hra
   ·rintro (⟨r,hr,hra⟩ | r)
    ·exact⟨r,by simp[hr],hra⟩
    ·exact⟨p,by simp,r⟩
theorem standP_apart(ps:List Pm):Apart (standP ps)/\∀a,(∃q∈standP ps,q.at_=a) ↔ ∃q∈ps,q.at_=a:=by
 have:∀(n:Nat),n<=ps.length->Apart (standP (ps.take n))/\∀a,(∃q∈standP (ps.take n),q.at_=a) ↔ ∃q∈ps.take n,q.at_=a:=by
  intro n
  induction n with
  | zero=>intro _;exact⟨by simp[Apart,standP],fun a=>by simp[standP]⟩
  | succ n ih=>
   intro hn
   obtain⟨h1,h2⟩:=ih (by omega)
   rw[List.take_succ_eq_append_getElem (by omega),standP_snoc]
   obtain⟨h3,h4⟩:=h1.step ps[n]
   refine⟨h3,fun a=>?_⟩
   rw[h4,h2]
   simp only[List.mem_append,List.mem_singleton]
   constructor
   ·rintro (⟨r,hr,e⟩ | e)
    ·exact⟨r,.inl hr,e⟩
    ·exact⟨_,.inr rfl,e⟩
   ·rintro ⟨r,hr | hr,e⟩
    ·exact .inl ⟨r,hr,e⟩
    ·exact .inr (by rw[<- hr];exact e)
 have:=this ps.length (Nat.le_refl _)
 rwa [List.take_length]at this
theorem standP_ahead{ps:List Pm}(h0:∀p∈ps,0<=p.at_)(ah:Nat->Option (List Int)):aheadP ah ((standP ps).map Pm.put)=aheadP ah (ps.map Pm.put):=by
 have:∀(n:Nat),n<=ps.length->aheadP ah ((standP (ps.take n)).map Pm.put)=aheadP ah ((ps.take n).map Pm.put):=by
  intro n
  induction n with
  | zero=>intro _;rfl
  | succ n ih=>
   intro hn
   have ih':=ih (by omega)
   rw[List.take_succ_eq_append_getElem (by omega),standP_snoc,List.map_append]
   show _=aheadP ah (_++[ps[n].put])
   rw[aheadP_snoc,<- ih']
   funext x
   have hp:=h0 ps[n] (List.getElem_mem _)
   have hS:∀q∈standP (ps.take n),0<=q.at_:=fun q hq=>h0 q (List.mem_of_mem_take (standP_mem hq))
   have hap:=(standP_apart (ps.take n)).1
   generalize standP (ps.take n)=S at *
   cases hf:S.findIdx? (fun q=>q.at_ == ps[n].at_) with
   | some i=>
    obtain⟨e,q,hq,hqa⟩:=standStep_hit hf
    rw[e,List.map_set]
    refine aheadP_set (q:=q.put) ?_ (by rw[List.getElem?_map,hq];rfl) (by show q.at_.toNat=ps[n].at_.toNat;rw[hqa]) ah x
    rw[List.map_map]
    unfold Apart at hap
    have e2:S.map (Prod.fst ∘ Pm.put)=(S.map Pm.at_).map Int.toNat:=by rw[List.map_map];rfl
    rw[e2]
    unfold List.Nodup at hap ⊢
    rw[List.pairwise_map]
    refine List.Pairwise.imp_of_mem (fun {a b} ha hb hne=>?_) hap
    obtain⟨r,hr,rfl⟩:=List.mem_map.1 ha
    obtain⟨r',hr',rfl⟩:=List.mem_map.1 hb
    have:=hS r hr
    have:=hS r' hr'
    omega
   | none=>
    obtain⟨e,_⟩:=standStep_miss hf
    rw[e,List.map_append]
    show aheadP ah (_++[ps[n].put]) x=_
    rw[aheadP_snoc]
 have:=this ps.length (Nat.le_refl _)
 rwa [List.take_length]at this
open Go.RowKit
theorem putC_good{p:Pm}(h:putC nb fr bl p.at_ p.data.length=0)(hb:Pl.isB p.data):p.put.1<nb/\homeC nb fr bl (p.put.1:Int)=0/\p.put.2.length=512/\Pl.isB p.put.2:=by
 obtain⟨h1,h2,h3,h4⟩:=putC_zero h
 have e:((p.at_.toNat:Nat):Int)=p.at_:=by omega
 refine⟨by show p.at_.toNat<nb;omega,?_,h1,hb⟩
 show homeC nb fr bl ((p.at_.toNat:Nat):Int)=0
 rw[e]
 unfold homeC
 rw[if_neg (by omega)]
theorem stand_good{ps:List Pm}(h:∀p∈ps,putC nb fr bl p.at_ p.data.length=0/\Pl.isB p.data):GoodT nb fr bl ((standP ps).map Pm.put):=fun x hx=>by
 obtain⟨p,hp,rfl⟩:=List.mem_map.1 hx
 exact putC_good (h p (standP_mem hp)).1 (h p (standP_mem hp)).2
theorem after_stand{ps:List Pm}(h0:∀p∈ps,0<=p.at_)(base:Nat->List Int)(ts:List Tn):after base (ts++[(standP ps).map Pm.put])=after base (ts++[ps.map Pm.put]):=by
 funext x
 unfold after
 rw[List.flatten_append,List.flatten_append,aheadP_append,aheadP_append]
 simp only[List.flatten_cons,List.flatten_nil,List.append_nil]
 rw[standP_ahead h0]
theorem Nm.appendP{s:Js}{base:Nat->List Int}{cont:Nat->Nat->List Int}(h:Nm d s nb fr bl q base ts k lo s.seq cont)(hf:d.Fits nb)(hfit:fr+bl<=nb)(hlo:16<=bl){ps:List Pm}(hp:∀p∈ps,putC nb fr bl p.at_ p.data.length=0/\Pl.isB p.data)(hk:(standP ps).length<=bl / 2-4)(hsq:s.seq<1099511627776)(c3:∀x,HomeB nb fr bl x->after base (ts++[ps.map Pm.put]) x=cont (s.seq+1) x) :
  G (d.runs (wlCmds nb fr bl s (appRecs ps))).2.poss nb fr bl lo (s.seq+1) cont/\((d.runs (wlCmds nb fr bl s (appRecs ps))).1=0->(d.runs (wlCmds nb fr bl s (appRecs ps))).2.Fits nb/\∃q' base' ts' k',Nm (d.runs (wlCmds nb fr bl s (appRecs ps))).2 (appE bl s ps) nb fr bl q' base' ts' k' lo (s.seq+1) cont):=by
 have hg:=stand_good hp
 have hr:(txRecs ((standP ps).map Pm.put)).length+1<=bl:=by
  unfold txRecs
  rw[length_recsZ,length_bytesZ (fun p hp=>(hg p hp).2.2.1),List.length_map]
  exact recs_fit hlo hk
 exact h.append hf hfit hg hsq hr (fun x hx=>by rw[after_stand (fun p hq=>(putC_zero (hp p hq).1).2.1)];exact c3 x hx)
theorem Nm.jn{s:Js}{base:Nat->List Int}{hi:Nat}{cont:Nat->Nat->List Int}(h:Nm d s nb fr bl q base ts k lo hi cont)(hlo:16<=bl)(hfit:fr+bl<=nb)(hnb:nb<=524288):Jn nb fr bl s :=
 ⟨hlo,hfit,hnb,h.sole.hd.life,h.seq_le,by have:=h.sole.hd.fit;rw[List.append_nil]at this;rw[h.used];exact this⟩
theorem appE_seq(bl:Nat)(s:Js)(ps:List Pm):(appE bl s ps).seq=s.seq+1:=by
 show (wlE bl s (appRecs ps).length).seq+1=s.seq+1
 rw[wlE_seq]
theorem standStep_count(S:List Pm)(p:Pm):(standStep S p).length=S.length+if ∃q∈S,q.at_=p.at_ then 0 else 1:=by
 cases hf:S.findIdx? (fun q=>q.at_ == p.at_) with
 | some i=>
  obtain⟨e,q,hq,hqa⟩:=standStep_hit hf
  rw[e,List.length_set,if_pos ⟨q,List.mem_of_getElem? hq,hqa⟩]
  rfl
 | none=>
  obtain⟨e,hno⟩:=standStep_miss hf
  rw[e,if_neg (fun⟨q,hq,hqa⟩=>hno q hq hqa),List.length_append]
  rfl
open Go.RowKit
structure Lg (w:World) (g:Nat) (ha:Option Addr) (nb hc fr bl:Nat) (ta:Option Addr) (tn tc:Nat):Prop where
 blk:w.heap[g]?=some (.cells #[.slice ha (512 * nb) hc,.int .i64 (fr:Int),.int .i64 (bl:Int),.slice ta tn tc] 101 (0,0))
theorem Lg.c0{g:Nat}(h:Lg w g ha nb hc fr bl ta tn tc):w.cell? ⟨g,0,none⟩=some (.slice ha (512 * nb) hc):=by simp[World.cell?,h.blk]
theorem Lg.c1{g:Nat}(h:Lg w g ha nb hc fr bl ta tn tc):w.cell? ⟨g,1,none⟩=some (.int .i64 (fr:Int)):=by simp[World.cell?,h.blk]
theorem Lg.c2{g:Nat}(h:Lg w g ha nb hc fr bl ta tn tc):w.cell? ⟨g,2,none⟩=some (.int .i64 (bl:Int)):=by simp[World.cell?,h.blk]
theorem Lg.c3{g:Nat}(h:Lg w g ha nb hc fr bl ta tn tc):w.cell? ⟨g,3,none⟩=some (.slice ta tn tc):=by simp[World.cell?,h.blk]
theorem Lg.frozen{g:Nat}(h:Lg w g ha nb hc fr bl ta tn tc)(t:Nat):w.frozen? ⟨g,t,none⟩=false:=by simp[World.frozen?,h.blk]
open Go.RowKit
end Go.Proofs.YthfojpcibnfmgaaGreat
