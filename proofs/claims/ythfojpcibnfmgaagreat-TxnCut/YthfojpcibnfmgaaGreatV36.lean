import Derived.Test.YthfojpcibnfmgaaGreatV34
import Derived.Test.YthfojpcibnfmgaaGreatV35
set_option maxRecDepth 100000
set_option maxHeartbeats 16000000
namespace Go.Proofs.YthfojpcibnfmgaaGreat
variable {w w':World}
variable {bl e fr i k m n nb:Nat}
variable {X:Nat->Prop}
variable {who:Option Bool}
variable {rv:Value}
variable {xs:List Value}
variable {a:Option Addr}
open Go.RowKit
structure RT where
 g:Nat
 pv:Value
 mv:Value
 ps:List Pu
 ks:List Nat
structure Ra where
 rb:Nat
 fv:Value
 dv:Value
 sure:Int
 Fs:List ByteArray
 Ds:List (List Pu)
 rs:List (Nat×Nat)
 q:Option RT
 off:Bool
def rowsD (rs:List (Nat×Nat)) (Ds:List (List Pu)):List Value:=List.zipWith (fun r ps=>Value.slice (some ⟨r.1,0,none⟩) ps.length r.2) rs Ds
def qPtr (q:Option RT):Value:=.pointer (q.map fun q=>⟨q.g,0,none⟩)
structure Rsd (w:World) (nb fr bl:Nat) (r:Ra):Prop where
 sto:Rs5 w r.rb nb fr bl r.fv r.dv r.sure (qPtr r.q) r.off
 fst:w.ownsRow 0 9 1 r.fv nb (r.Fs.map Value.string)
 fsl:r.Fs.length=nb
 don:rowD w 60 r.dv r.Ds.length (rowsD r.rs r.Ds)
 rsl:r.rs.length=r.Ds.length
 din:∀(i:Nat) (x:Nat×Nat) (ps:List Pu),r.rs[i]?=some x->r.Ds[i]?=some ps->w.ownsRow 0 150 2 (.slice (some ⟨x.1,0,none⟩) ps.length x.2) ps.length (puCells ps)
 tx:∀q,r.q=some q->Rtx w q.g r.rb q.pv q.mv q.ps q.ks
 ap:∀q,r.q=some q->∀x∈r.rs,q.pv.ownBlock≠some x.1
def Rset (r:Ra) (k:Nat):Prop:=k=r.rb\/r.fv.ownBlock=some k\/r.dv.ownBlock=some k\/(∃x∈r.rs,k=x.1)\/∃q,r.q=some q/\(k=q.g\/q.pv.ownBlock=some k\/q.mv.ownBlock=some k)
theorem Rsd.kinds{r:Ra}(h:Rsd w nb fr bl r)(hk:Rset r k):∃cur e,w.heap[k]?=some (.cells cur e (0,0))/\(e=67\/e=9\/e=60\/e=150\/e=115\/e=3):=by
 rcases hk with rfl | hk | hk | ⟨x,hx,rfl⟩ | ⟨q,hq,rfl | hk | hk⟩
 ·exact⟨_,_,h.sto,.inl rfl⟩
 ·obtain⟨cur,hc⟩:=rowKind h.fst hk
  exact⟨cur,_,hc,.inr (.inl rfl)⟩
 ·obtain⟨cur,hc⟩:=rowD.kind h.don hk
  exact⟨cur,_,hc,.inr (.inr (.inl rfl))⟩
 ·obtain⟨i,hi⟩:=List.mem_iff_getElem?.1 hx
  obtain⟨ps,hps⟩:∃ps,r.Ds[i]?=some ps:=⟨_,List.getElem?_eq_getElem (by have:=(List.getElem?_eq_some_iff.1 hi).1;rw[<- h.rsl];exact this)⟩
  obtain⟨cur,hc⟩:=rowKind (h.din i x ps hi hps) (k:=x.1) rfl
  exact⟨cur,_,hc,.inr (.inr (.inr (.inl rfl)))⟩
 ·exact⟨_,_,(h.tx q hq).blk,.inr (.inr (.inr (.inr (.inl rfl))))⟩
 ·obtain⟨cur,hc⟩:=rowKind (h.tx q hq).pr hk
  exact⟨cur,_,hc,.inr (.inr (.inr (.inl rfl)))⟩
 ·obtain⟨cur,hc⟩:=rowKind (h.tx q hq).mr hk
  exact⟨cur,_,hc,.inr (.inr (.inr (.inr (.inr rfl))))⟩
theorem Rsd.lt{r:Ra}(h:Rsd w nb fr bl r)(hk:Rset r k):k<w.heap.size:=by
 obtain⟨cur,e,hc,_⟩:=h.kinds hk
 exact (Array.getElem?_eq_some_iff.1 hc).1
theorem Rsd.keep{r:Ra}(h:Rsd w nb fr bl r)(hk:∀k,Rset r k->w'.heap[k]?=w.heap[k]?):Rsd w' nb fr bl r where
 sto:=h.sto.keep (hk _ (.inl rfl))
 fst:=owns_keep h.fst (fun k e=>hk k (.inr (.inl e)))
 fsl:=h.fsl
 don:=rowD.keep h.don (fun k e=>hk k (.inr (.inr (.inl e))))
 rsl:=h.rsl
 din:=fun i x ps h1 h2=>owns_keep (h.din i x ps h1 h2) (fun k e=>by
  have:x.1=k:=by simpa [Value.ownBlock] using e
  subst this
  exact hk _ (.inr (.inr (.inr (.inl ⟨x,List.mem_of_getElem? h1,rfl⟩)))))
 tx:=fun q hq=>(h.tx q hq).keep (hk _ (.inr (.inr (.inr (.inr ⟨q,hq,.inl rfl⟩))))) (fun k e=>hk k (.inr (.inr (.inr (.inr ⟨q,hq,.inr (.inl e)⟩))))) (fun k e=>hk k (.inr (.inr (.inr (.inr ⟨q,hq,.inr (.inr e)⟩)))))
 ap:=h.ap
theorem Rsd.but{r:Ra}(h:Rsd w nb fr bl r)(hb:But X w w')(hx:∀k,Rset r k->¬X k):Rsd w' nb fr bl r:=h.keep (fun k hk=>hb.block k (h.lt hk) (hx k hk))
theorem Rsd.below{r:Ra}(h:Rsd w nb fr bl r)(hb:Below w.heap.size w w'):Rsd w' nb fr bl r:=h.keep (fun k hk=>hb.block k (h.lt hk))
theorem Rsd.str{r:Ra}(h:Rsd w nb fr bl r):StrR w r.fv r.Fs:=StrL.of_row h.fsl h.fst
theorem rowsD_get{rs:List (Nat×Nat)}{Ds:List (List Pu)}{ps:List Pu}{x:Nat×Nat}(h1:rs[i]?=some x)(h2:Ds[i]?=some ps):(rowsD rs Ds)[i]?=some (.slice (some ⟨x.1,0,none⟩) ps.length x.2):=by
 unfold rowsD
 rw[List.getElem?_zipWith,h1,h2]
theorem rowsD_length{rs:List (Nat×Nat)}{Ds:List (List Pu)}(h:rs.length=Ds.length):(rowsD rs Ds).length=Ds.length:=by
 unfold rowsD
 rw[List.length_zipWith,h,Nat.min_self]
theorem rowsD_snoc{rs:List (Nat×Nat)}{Ds:List (List Pu)}(h:rs.length=Ds.length)(x:Nat×Nat)(ps:List Pu):rowsD (rs++[x]) (Ds++[ps])=rowsD rs Ds++[.slice (some ⟨x.1,0,none⟩) ps.length x.2]:=by
 unfold rowsD
 rw[List.zipWith_append h]
 rfl
theorem Rsd.done{r:Ra}(h:Rsd w nb fr bl r):∃da dc,r.dv=.slice da r.Ds.length dc/\DoneL w da r.Ds:=by
 obtain⟨da,dc,e,_⟩:=rowD.slice h.don
 refine⟨da,dc,e,fun i ps hps=>?_⟩
 have hil:=(List.getElem?_eq_some_iff.1 hps).1
 obtain⟨x,hx⟩:∃x,r.rs[i]?=some x:=⟨_,List.getElem?_eq_getElem (by rw[h.rsl];exact hil)⟩
 have hd:=h.don
 obtain⟨g,c2,q1⟩:=rowD.addr hd (by omega)
 rw[e]at q1
 have e2:da=some ⟨g,0,none⟩:=by injection q1
 subst e2
 rw[e]at hd
 obtain⟨a,c,q3,q4⟩:=PutsL.of_row (h.din i x ps hx hps) rfl
 have e3:a=some ⟨x.1,0,none⟩:=by injection q3 with e3;exact e3.symm
 subst e3
 exact⟨g,some ⟨x.1,0,none⟩,x.2,rfl,(rowD.cellAt hd i (by omega)).trans (rowsD_get hx hps),q4⟩
def rdC (nb fr bl:Nat) (Fs:List ByteArray) (Ds:List (List Pu)) (off:Bool) (y:Int):ByteArray×Int:=if off then (ByteArray.empty,24) else if homeC nb fr bl y≠0 then (ByteArray.empty,42) else (holdsU y (Fs.getD y.toNat ByteArray.empty) Ds,0)
theorem Rsd.read{r:Ra}(h:Rsd w nb fr bl r)(hnb:nb<=524288)(hfit:fr+bl<=nb)(hkb:r.Ds.length<=1073741823)(hpl:∀ps∈r.Ds,ps.length<=1073741823)(y:Int) :
  Calls Tryz.prog 38 #[.pointer (some ⟨r.rb,0,none⟩),.int .i64 y] w fun e w'=>e=.returned (.tuple #[.string (rdC nb fr bl r.Fs r.Ds r.off y).1,.int .i64 (rdC nb fr bl r.Fs r.Ds r.off y).2])/\Below w.heap.size w w':=by
 have hsto:=h.sto
 unfold rdC
 cases hoff:r.off with
 | true=>
  rw[hoff]at hsto
  refine Calls.mono (rread_off hsto y) ?_
  rintro e w' ⟨rfl,rfl⟩
  exact⟨rfl,Below.refl _ _⟩
 | false=>
  rw[hoff]at hsto
  by_cases hh:homeC nb fr bl y=0
  ·obtain⟨yn,hy⟩:∃yn:Nat,y=(yn:Int)/\yn<nb:=by
    unfold homeC at hh
    split at hh
    ·exact absurd hh (by decide)
    ·rename_i q
     exact⟨y.toNat,by omega,by omega⟩
   obtain⟨rfl,hyn⟩:=hy
   obtain⟨da,dc,e1,hD⟩:=h.done
   rw[e1]at hsto
   have hF:r.Fs[yn]?=some (r.Fs.getD yn ByteArray.empty):=by
    rw[List.getD_eq_getElem?_getD]
    have:yn<r.Fs.length:=by rw[h.fsl];exact hyn
    rw[List.getElem?_eq_getElem this]
    rfl
   refine Calls.mono (rread_home hsto (fun w' b=>⟨h.str.below b,hD.below b⟩) hnb hfit yn hh _ hF h.fsl hkb hpl) ?_
   rintro e w' ⟨rfl,q⟩
   refine⟨?_,q⟩
   simp[hh]
  ·refine Calls.mono (rread_far hsto hnb hfit y hh) ?_
   rintro e w' ⟨rfl,q⟩
   refine⟨?_,q⟩
   simp[hh]
open Go.RowKit
def askW (who:Option Bool) (off:Bool):Int:=match who with
 | none=>1
 | some b=>if off then 24 else if b then 0 else 51
theorem askW_zero{off:Bool}(h:askW who off=0):who=some true/\off=false:=by
 unfold askW at h
 cases who with
 | none=>simp at h
 | some b=>cases off <;> cases b <;> first | exact⟨rfl,rfl⟩ | exact absurd h (by decide)
def RWho (w:World) (r:Ra) (rv:Value):Option Bool->Prop
 | none=>rv=.pointer none
 | some true=>∃q,r.q=some q/\rv=.pointer (some ⟨q.g,0,none⟩)
 | some false=>∃g pv mv,rv=.pointer (some ⟨g,0,none⟩)/\Rt5 w g r.rb pv mv true
theorem Rsd.state{r:Ra}(h:Rsd w nb fr bl r)(hw:RWho w r rv who):Calls Tryz.prog 84 #[rv] w fun e w'=>e=.returned (.int .i64 (askW who r.off))/\w'=w:=by
 cases who with
 | none=>
  obtain rfl:=hw
  exact rstate_nil w
 | some b=>
  cases b with
  | true=>
   obtain⟨q,hq,rfl⟩:=hw
   exact rstate_any (h.tx q hq).blk h.sto
  | false=>
   obtain⟨g,pv,mv,rfl,hg⟩:=hw
   exact rstate_any hg h.sto
theorem ne_bne{c:Int}(h:c≠0):(c != 0)=true:=by simp[h]
def psOf (r:Ra):List Pu:=match r.q with
 | some q=>q.ps
 | none=>[]
theorem home_nat{y:Int}(h:homeC nb fr bl y=0):∃yn:Nat,y=(yn:Int)/\yn<nb:=by
 unfold homeC at h
 split at h
 ·exact absurd h (by decide)
 ·rename_i q
  exact⟨y.toNat,by omega,by omega⟩
theorem home_far{y:Int}(h:homeC nb fr bl y≠0):homeC nb fr bl y=42:=by
 unfold homeC at h ⊢
 split
 ·rfl
 ·rename_i q;rw[if_neg q]at h;exact absurd rfl h
def trC (nb fr bl:Nat) (r:Ra) (who:Option Bool) (y:Int):ByteArray×Int:=if askW who r.off≠0 then (ByteArray.empty,askW who r.off) else if homeC nb fr bl y≠0 then (ByteArray.empty,42) else (layU y (holdsU y (r.Fs.getD y.toNat ByteArray.empty) r.Ds) (psOf r),0)
theorem Rsd.tread{r:Ra}(h:Rsd w nb fr bl r)(hnb:nb<=524288)(hfit:fr+bl<=nb)(hkb:r.Ds.length<=1073741823)(hpl:∀ps∈r.Ds,ps.length<=1073741823)(hql:∀q,r.q=some q->q.ps.length<=1073741823)(hw:RWho w r rv who)(y:Int) :
  Calls Tryz.prog 76 #[rv,.int .i64 y] w fun e w'=>e=.returned (.tuple #[.string (trC nb fr bl r who y).1,.int .i64 (trC nb fr bl r who y).2])/\Below w.heap.size w w':=by
 have HS:=h.state hw
 unfold trC
 by_cases hc:askW who r.off=0
 ·obtain⟨rfl,hoff⟩:=askW_zero hc
  obtain⟨q,hq,rfl⟩:=hw
  have hsto:=h.sto
  rw[hoff]at hsto
  obtain⟨pa,pc,e1,hP⟩:=PutsL.of_row (h.tx q hq).pr rfl
  have HR:=h.read hnb hfit hkb hpl y
  by_cases hh:homeC nb fr bl y=0
  ·have e2:rdC nb fr bl r.Fs r.Ds r.off y=(holdsU y (r.Fs.getD y.toNat ByteArray.empty) r.Ds,0):=by
    unfold rdC
    rw[hoff]
    simp[hh]
   rw[e2]at HR
   refine Calls.mono (rtread_home (h.tx q hq).blk hsto e1 hP (hql q hq) y _ HR) ?_
   rintro e w' ⟨rfl,q2⟩
   refine⟨?_,q2⟩
   simp[hh,hc,psOf,hq]
  ·have e2:rdC nb fr bl r.Fs r.Ds r.off y=(ByteArray.empty,42):=by
    unfold rdC
    rw[hoff]
    simp[hh]
   rw[e2]at HR
   refine Calls.mono (rtread_far (h.tx q hq).blk hsto e1 y HR) ?_
   rintro e w' ⟨rfl,q2⟩
   refine⟨?_,q2⟩
   simp[hh,hc]
 ·refine Calls.mono (rtread_no HS (ne_bne hc) y) ?_
  rintro e w' ⟨rfl,rfl⟩
  refine⟨?_,Below.refl _ _⟩
  simp[hc]
def Rgr (r r':Ra) (w:World):Prop:=∀k,Rset r' k->Rset r k\/w.heap.size<=k
theorem Rgr.refl(r:Ra)(w:World):Rgr r r w:=fun _ h=>.inl h
theorem Rsd.retx{r:Ra}(h:Rsd w nb fr bl r){q:RT}(hq:r.q=some q){q':RT}(hg:q'.g=q.g)(hb:But (fun k=>k=q.g\/q.pv.ownBlock=some k\/q.mv.ownBlock=some k) w w')(hT:Rtx w' q'.g r.rb q'.pv q'.mv q'.ps q'.ks)(hp:∀k,q'.pv.ownBlock=some k->q.pv.ownBlock=some k\/w.heap.size<=k)(hm:∀k,q'.mv.ownBlock=some k->q.mv.ownBlock=some k\/w.heap.size<=k) :
  Rsd w' nb fr bl { r with q:=some q' }/\Rgr r { r with q:=some q' } w/\But (Rset r) w w':=by
 have hin:∀k,(k=q.g\/q.pv.ownBlock=some k\/q.mv.ownBlock=some k)->Rset r k:=fun k e=>.inr (.inr (.inr (.inr ⟨q,hq,e⟩)))
 have hgk:w.heap[q.g]?=some (.cells #[.pointer (some ⟨r.rb,0,none⟩),q.pv,q.mv,.bool false] 115 (0,0)):=(h.tx q hq).blk
 have hkeep:∀k cur e,w.heap[k]?=some (.cells cur e (0,0))->e≠115->e≠3->(e≠150\/q.pv.ownBlock≠some k)->w'.heap[k]?=w.heap[k]?:=fun k cur e hc n1 n2 n3=>by
  refine hb.block k (Array.getElem?_eq_some_iff.1 hc).1 (fun e2=>?_)
  rcases e2 with e2 | e2 | e2
  ·exact kind_ne hc hgk n1 e2
  ·rcases n3 with n3 | n3
   ·obtain⟨cu,hcu⟩:=rowKind (h.tx q hq).pr e2
    exact kind_ne hc hcu n3 rfl
   ·exact n3 e2
  ·obtain⟨cu,hcu⟩:=rowKind (h.tx q hq).mr e2
   exact kind_ne hc hcu n2 rfl
 refine⟨⟨?_,?_,h.fsl,?_,h.rsl,fun i x ps h1 h2=>?_,fun q9 e9=>?_,fun q9 e9 x hx=>?_⟩,?_,hb.mono (fun k _ e=>hin k e)⟩
 ·have hs:=h.sto
  rw[hq]at hs
  have e1:qPtr (some q')=qPtr (some q):=by unfold qPtr;simp[hg]
  show Rs5 w' r.rb nb fr bl r.fv r.dv r.sure (qPtr (some q')) r.off
  rw[e1]
  exact hs.keep (hkeep _ _ _ hs (by decide) (by decide) (.inl (by decide)))
 ·refine owns_keep h.fst (fun k e=>?_)
  obtain⟨cur,hcu⟩:=rowKind h.fst e
  exact hkeep k cur _ hcu (by decide) (by decide) (.inl (by decide))
 ·refine rowD.keep h.don (fun k e=>?_)
  obtain⟨cur,hcu⟩:=rowD.kind h.don e
  exact hkeep k cur _ hcu (by decide) (by decide) (.inl (by decide))
 ·refine owns_keep (h.din i x ps h1 h2) (fun k e=>?_)
  have e3:x.1=k:=by simpa [Value.ownBlock] using e
  subst e3
  obtain⟨cur,hcu⟩:=rowKind (h.din i x ps h1 h2) e
  exact hkeep _ cur _ hcu (by decide) (by decide) (.inr (h.ap q hq x (List.mem_of_getElem? h1)))
 ·cases e9
  exact hT
 ·cases e9
  intro e3
  rcases hp _ e3 with q3 | q3
  ·exact h.ap q hq x hx q3
  ·have:=h.lt (k:=x.1) (.inr (.inr (.inr (.inl ⟨x,hx,rfl⟩))))
   omega
 ·intro k hk
  rcases hk with hk | hk | hk | hk | ⟨q9,e9,hk⟩
  ·exact .inl (.inl hk)
  ·exact .inl (.inr (.inl hk))
  ·exact .inl (.inr (.inr (.inl hk)))
  ·exact .inl (.inr (.inr (.inr (.inl hk))))
  ·cases e9
   rcases hk with hk | hk | hk
   ·exact .inl (hin k (.inl (hk.trans hg)))
   ·exact (hp k hk).imp (fun e=>hin k (.inr (.inl e))) id
   ·exact (hm k hk).imp (fun e=>hin k (.inr (.inr e))) id
def wrC (nb fr bl:Nat) (off:Bool) (who:Option Bool) (y:Int) (n:Nat):Int:=if askW who off≠0 then askW who off else if homeC nb fr bl y≠0 then 42 else if n≠512 then 43 else 0
theorem Rsd.at_{r:Ra}(h:Rsd w nb fr bl r)(hnb:nb<=524288)(hfit:fr+bl<=nb)(y:Int):Calls Tryz.prog 75 #[.pointer (some ⟨r.rb,0,none⟩),.int .i64 y] w fun e w'=>e=.returned (.int .i64 (homeC nb fr bl y))/\Below w.heap.size w w':=rat5_any h.sto hnb hfit y
theorem Rsd.write{r:Ra}(h:Rsd w nb fr bl r)(hnb:nb<=524288)(hfit:fr+bl<=nb)(hql:∀q,r.q=some q->q.ps.length<=1073741823)(hw:RWho w r rv who)(y:Int)(xa:Option Addr)(xn xc:Nat)(zs:List Int)(hR:RdN (Rset r) w xa xn zs) :
  Calls Tryz.prog 119 #[rv,.int .i64 y,.slice xa xn xc] w fun e w'=>e=.returned (.int .i64 (wrC nb fr bl r.off who y xn))/\∃r',Rsd w' nb fr bl r'/\But (Rset r) w w'/\Rgr r r' w/\(wrC nb fr bl r.off who y xn≠0->r'=r)/\(wrC nb fr bl r.off who y xn=0->∃q pv',r.q=some q/\r'={ r with q:=some { q with pv:=pv',ps:=q.ps++[(y,strOfNums zs)] } }):=by
 have HS:=h.state hw
 unfold wrC
 by_cases hc:askW who r.off=0
 ·obtain⟨rfl,hoff⟩:=askW_zero hc
  obtain⟨q,hq,rfl⟩:=hw
  have hsto:=h.sto
  rw[hoff]at hsto
  have HA:=h.at_ hnb hfit y
  by_cases hh:homeC nb fr bl y=0
  ·rw[hh]at HA
   by_cases hn:xn=512
   ·subst hn
    obtain⟨ad,rfl⟩:∃ad,xa=some ad:=by
     rcases hR.2.2 with q0 | ⟨b,off,e,_⟩
     ·exact absurd q0 (by decide)
     ·exact⟨_,e⟩
    have hin:∀k,(k=q.g\/q.pv.ownBlock=some k)->Rset r k:=fun k e=>.inr (.inr (.inr (.inr ⟨q,hq,e.imp id .inl⟩)))
    refine Calls.mono (rwrite_raw (h.tx q hq).blk hsto (h.tx q hq).pr (hql q hq) y HA ad xc (strOfNums zs) (fun w' b=>conv_str ((hR.mono (fun k _ e=>e)).but (b.mono (fun k _ e=>hin k e))).rd xc)) ?_
    rintro e w' ⟨rfl,g',cap,q1,q2,q3,q4⟩
    have hmw:∀k,q.mv.ownBlock=some k->w'.heap[k]?=w.heap[k]?:=fun k e=>by
     obtain⟨cur,hcu⟩:=rowKind (h.tx q hq).mr e
     refine q4.block k (Array.getElem?_eq_some_iff.1 hcu).1 (fun e2=>?_)
     rcases e2 with e2 | e2
     ·exact kind_ne hcu (h.tx q hq).blk (by decide) e2
     ·obtain⟨cu,hcu2⟩:=rowKind (h.tx q hq).pr e2
      exact kind_ne hcu hcu2 (by decide) rfl
    obtain⟨t1,t2,t3⟩:=h.retx hq (q':={ q with pv:=.slice (some ⟨g',0,none⟩) (q.ps.length+1) cap,ps:=q.ps++[(y,strOfNums zs)] }) rfl (q4.mono (fun k _ e=>e.imp id .inl)) ⟨q1,by
      show w'.ownsRow 0 150 2 (.slice (some ⟨g',0,none⟩) (q.ps.length+1) cap) (q.ps++[(y,strOfNums zs)]).length (puCells (q.ps++[(y,strOfNums zs)]))
      rw[puCells_snoc,List.length_append]
      exact q2,owns_keep (h.tx q hq).mr hmw⟩ (fun k e=>by
      have e4:g'=k:=by simpa [Value.ownBlock] using e
      exact e4 ▸ q3) (fun k e=>.inl e)
    exact⟨by simp[hc,hh],_,t1,t3,t2,fun e=>absurd (by simp[hc,hh]) e,fun _=>⟨q,_,hq,rfl⟩⟩
   ·refine Calls.mono (rwrite_len (h.tx q hq).blk hsto y HA xa xn xc hn) ?_
    rintro e w' ⟨rfl,b⟩
    refine⟨by simp[hc,hh,hn],r,h.below b,But.of_below b,Rgr.refl r w,fun _=>rfl,fun e=>?_⟩
    simp[hc,hh,hn]at e
  ·rw[home_far hh]at HA
   refine Calls.mono (rwrite_far (h.tx q hq).blk hsto y HA _) ?_
   rintro e w' ⟨rfl,b⟩
   refine⟨by simp[hc,hh],r,h.below b,But.of_below b,Rgr.refl r w,fun _=>rfl,fun e=>?_⟩
   simp[hc,hh]at e
 ·refine Calls.mono (rwrite_no HS (ne_bne hc) y _) ?_
  rintro e w' ⟨rfl,rfl⟩
  refine⟨by simp[hc],r,h,But.refl _ _,Rgr.refl r _,fun _=>rfl,fun e=>?_⟩
  simp[hc]at e
open Go.RowKit
def ksOf (r:Ra):List Nat:=match r.q with
 | some q=>q.ks
 | none=>[]
theorem Rsd.mark{r:Ra}(h:Rsd w nb fr bl r)(hkl:∀q,r.q=some q->q.ks.length<=1073741823)(hw:RWho w r rv who) :
  Calls Tryz.prog 79 #[rv] w fun e w'=>e=.returned (.tuple #[.int .i64 (if askW who r.off≠0 then 0 else ((ksOf r).length:Int)),.int .i64 (askW who r.off)])/\∃r',Rsd w' nb fr bl r'/\But (Rset r) w w'/\Rgr r r' w/\(askW who r.off≠0->r'=r)/\(askW who r.off=0->∃q mv',r.q=some q/\r'={ r with q:=some { q with mv:=mv',ks:=q.ks++[q.ps.length] } }):=by
 have HS:=h.state hw
 by_cases hc:askW who r.off=0
 ·obtain⟨rfl,hoff⟩:=askW_zero hc
  obtain⟨q,hq,rfl⟩:=hw
  have hsto:=h.sto
  rw[hoff]at hsto
  obtain⟨pa,pc,e1,_⟩:=owns_slice (h.tx q hq).pr
  have hblk:=(h.tx q hq).blk
  rw[e1]at hblk
  refine Calls.mono (rmark_raw hblk hsto (h.tx q hq).mr (hkl q hq)) ?_
  rintro e w' ⟨rfl,g',cap,q1,q2,q3,q4⟩
  have hpw:∀k,q.pv.ownBlock=some k->w'.heap[k]?=w.heap[k]?:=fun k e=>by
   obtain⟨cur,hcu⟩:=rowKind (h.tx q hq).pr e
   refine q4.block k (Array.getElem?_eq_some_iff.1 hcu).1 (fun e2=>?_)
   rcases e2 with e2 | e2
   ·exact kind_ne hcu (h.tx q hq).blk (by decide) e2
   ·obtain⟨cu,hcu2⟩:=rowKind (h.tx q hq).mr e2
    exact kind_ne hcu hcu2 (by decide) rfl
  rw[<- e1]at q1
  obtain⟨t1,t2,t3⟩:=h.retx hq (q':={ q with mv:=.slice (some ⟨g',0,none⟩) (q.ks.length+1) cap,ks:=q.ks++[q.ps.length] }) rfl (q4.mono (fun k _ e=>e.imp id .inr)) ⟨q1,owns_keep (h.tx q hq).pr hpw,by
    show w'.ownsRow 0 3 1 (.slice (some ⟨g',0,none⟩) (q.ks.length+1) cap) (q.ks++[q.ps.length]).length ((q.ks++[q.ps.length]).map fun (k:Nat)=>Value.int .i64 (k:Int))
    rw[List.length_append,List.map_append]
    exact q2⟩ (fun k e=>.inl e) (fun k e=>by
    have e4:g'=k:=by simpa [Value.ownBlock] using e
    exact e4 ▸ q3)
  refine⟨?_,_,t1,t3,t2,fun e=>absurd hc e,fun _=>⟨q,_,hq,rfl⟩⟩
  simp[hc,ksOf,hq]
 ·refine Calls.mono (rmark_no HS (ne_bne hc)) ?_
  rintro e w' ⟨rfl,rfl⟩
  refine⟨by simp[hc],r,h,But.refl _ _,Rgr.refl r _,fun _=>rfl,fun e=>absurd e hc⟩
theorem ownB_len(a:Option Addr)(n c n' c':Nat):(Value.slice a n c).ownBlock=(Value.slice a n' c').ownBlock:=by
 cases a <;> rfl
def bkC (off:Bool) (who:Option Bool) (n:Nat) (k:Int):Int:=if askW who off≠0 then askW who off else if k<0\/(n:Int)<=k then 52 else 0
theorem row_full{base size:Nat}{v:Value}(h:w.ownsRow base e size v n xs)(hn:0<n):∃g c,v=.slice (some ⟨g,0,none⟩) n c/\n<=c:=by
 rcases h.2 with ⟨_,q0⟩ | ⟨g,cap,cur,q1,_,_,h3,_⟩
 ·omega
 ·exact⟨g,cap,q1,h3⟩
theorem row_room{base size:Nat}{c:Nat}(h:w.ownsRow base e size (.slice a n c) n xs):n<=c:=by
 rcases h.2 with ⟨q0,q1⟩ | ⟨g,cap,cur,q1,_,_,h3,_⟩
 ·omega
 ·have:c=cap:=by injection q1
  omega
theorem row_cut'{base size:Nat}{c:Nat}(h:w.ownsRow base e size (.slice a n c) n xs)(hm:m<=n):w.ownsRow base e size (.slice a m c) m (xs.take (m * size)):=by
 by_cases hn:0<n
 ·obtain⟨g,c',e1,_⟩:=row_full h hn
  have e2:a=some ⟨g,0,none⟩:=by injection e1
  subst e2
  exact row_cut h hm
 ·obtain rfl:n=0:=by omega
  obtain rfl:m=0:=by omega
  have hl:=h.1
  simp at hl
  rw[hl]at h ⊢
  simpa using h
theorem Rsd.back{r:Ra}(h:Rsd w nb fr bl r)(hkl:∀q,r.q=some q->q.ks.length<=1073741823/\∀(i k:Nat),q.ks[i]?=some k->k<=q.ps.length)(hw:RWho w r rv who)(k:Int) :
  Calls Tryz.prog 80 #[rv,.int .i64 k] w fun e w'=>e=.returned (.int .i64 (bkC r.off who (ksOf r).length k))/\∃r',Rsd w' nb fr bl r'/\But (Rset r) w w'/\Rgr r r' w/\(bkC r.off who (ksOf r).length k≠0->r'=r)/\(bkC r.off who (ksOf r).length k=0->∃q kn p pv' mv',r.q=some q/\k=((kn:Nat):Int)/\q.ks[kn]?=some p/\r'={ r with q:=some { q with pv:=pv',mv:=mv',ps:=q.ps.take p,ks:=q.ks.take (kn+1) } }):=by
 have HS:=h.state hw
 unfold bkC
 by_cases hc:askW who r.off=0
 ·obtain⟨rfl,hoff⟩:=askW_zero hc
  obtain⟨q,hq,rfl⟩:=hw
  have hks:ksOf r=q.ks:=by simp[ksOf,hq]
  rw[hks]
  have hsto:=h.sto
  rw[hoff]at hsto
  obtain⟨pa,pc,e1,_⟩:=owns_slice (h.tx q hq).pr
  obtain⟨ma,mc,e2,_⟩:=owns_slice (h.tx q hq).mr
  have hT:=h.tx q hq
  by_cases hk:k<0\/(q.ks.length:Int)<=k
  ·have hblk:=hT.blk
   rw[e2]at hblk
   refine Calls.mono (rback_far hblk hsto k hk) ?_
   rintro e w' ⟨rfl,rfl⟩
   refine⟨by simp[hc,hk],r,h,But.refl _ _,Rgr.refl r _,fun _=>rfl,fun e=>?_⟩
   simp[hc,hk]at e
  ·obtain⟨kn,rfl⟩:∃kn:Nat,k=(kn:Int):=⟨k.toNat,by omega⟩
   have hkn:kn<q.ks.length:=by omega
   obtain⟨mg,mc',e3,hmc⟩:=row_full hT.mr (by omega)
   obtain⟨p,hp⟩:∃p,q.ks[kn]?=some p:=⟨_,List.getElem?_eq_getElem hkn⟩
   have hpp:=(hkl q hq).2 kn p hp
   have hpr:=hT.pr
   have hmr:=hT.mr
   have hblk:=hT.blk
   rw[e1]at hpr hblk
   rw[e3]at hmr hblk
   have hpc:=row_room hpr
   refine Calls.mono (rback_raw hblk hsto hmr hkn (hkl q hq).1 (p:=p) (by simp[hp]) (by omega) hmc) ?_
   rintro e w' ⟨rfl,q1,q4⟩
   have hpw:∀k,q.pv.ownBlock=some k->w'.heap[k]?=w.heap[k]?:=fun k e=>by
    obtain⟨cur,hcu⟩:=rowKind hT.pr e
    exact q4.block k (Array.getElem?_eq_some_iff.1 hcu).1 (fun e2=>kind_ne hcu hT.blk (by decide) e2)
   have hmw:∀k,q.mv.ownBlock=some k->w'.heap[k]?=w.heap[k]?:=fun k e=>by
    obtain⟨cur,hcu⟩:=rowKind hT.mr e
    exact q4.block k (Array.getElem?_eq_some_iff.1 hcu).1 (fun e2=>kind_ne hcu hT.blk (by decide) e2)
   have hpr':=row_cut' (owns_keep hpr (fun k e=>hpw k (by rw[e1];exact e))) hpp
   have hmr':=row_cut' (owns_keep hmr (fun k e=>hmw k (by rw[e3];exact e))) (m:=kn+1) (by omega)
   obtain⟨t1,t2,t3⟩:=h.retx hq (q':={ q with pv:=.slice pa p pc,mv:=.slice (some ⟨mg,0,none⟩) (kn+1) mc',ps:=q.ps.take p,ks:=q.ks.take (kn+1) }) rfl (q4.mono (fun k _ e=>.inl e)) ⟨q1,by
     show w'.ownsRow 0 150 2 (.slice pa p pc) (q.ps.take p).length (puCells (q.ps.take p))
     rw[puCells_take,List.length_take,Nat.min_eq_left hpp]
     exact hpr',by
     show w'.ownsRow 0 3 1 (.slice (some ⟨mg,0,none⟩) (kn+1) mc') (q.ks.take (kn+1)).length ((q.ks.take (kn+1)).map fun (k:Nat)=>Value.int .i64 (k:Int))
     rw[List.map_take,List.length_take,Nat.min_eq_left (by omega)]
     rw[Nat.mul_one]at hmr'
     exact hmr'⟩ (fun k e=>.inl (by rw[e1];exact (ownB_len _ _ _ _ _).trans e)) (fun k e=>.inl (by rw[e3];exact (ownB_len _ _ _ _ _).trans e))
   have hz:(if askW (some true) r.off≠0 then askW (some true) r.off else if (kn:Int)<0\/(q.ks.length:Int)<=(kn:Int) then 52 else 0)=0:=by rw[if_neg (by rw[hc];decide),if_neg hk]
   rw[hz]
   refine⟨rfl,_,t1,t3,t2,fun e=>absurd rfl e,fun _=>⟨q,kn,p,_,_,hq,rfl,hp,rfl⟩⟩
 ·refine Calls.mono (rback_no HS (ne_bne hc) k) ?_
  rintro e w' ⟨rfl,rfl⟩
  refine⟨by simp[hc],r,h,But.refl _ _,Rgr.refl r _,fun _=>rfl,fun e=>?_⟩
  simp[hc]at e
theorem Rsd.ended{r:Ra}(h:Rsd w nb fr bl r){q:RT}(hq:r.q=some q)(hb:But (fun k=>k=r.rb\/k=q.g) w w')(hs:Rs5 w' r.rb nb fr bl r.fv r.dv r.sure (.pointer none) r.off):Rsd w' nb fr bl { r with q:=none }/\Rgr r { r with q:=none } w/\But (Rset r) w w':=by
 have hgk:w.heap[q.g]?=some (.cells #[.pointer (some ⟨r.rb,0,none⟩),q.pv,q.mv,.bool false] 115 (0,0)):=(h.tx q hq).blk
 have hkeep:∀(k:Nat) (cur:Array Value) (e:TypeId),w.heap[k]?=some (Obj.cells cur e (0,0))->e≠115->e≠67->w'.heap[k]?=w.heap[k]?:=fun k cur e hc n1 n2=>by
  refine hb.block k (Array.getElem?_eq_some_iff.1 hc).1 (fun e2=>?_)
  rcases e2 with e2 | e2
  ·exact kind_ne hc h.sto n2 e2
  ·exact kind_ne hc hgk n1 e2
 refine⟨⟨hs,?_,h.fsl,?_,h.rsl,fun i x ps h1 h2=>?_,fun q9 e9=>(by cases e9),fun q9 e9=>(by cases e9)⟩,?_,hb.mono (fun k _ e=>?_)⟩
 ·refine owns_keep h.fst (fun k e=>?_)
  obtain⟨cur,hcu⟩:=rowKind h.fst e
  exact hkeep k cur _ hcu (by decide) (by decide)
 ·refine rowD.keep h.don (fun k e=>?_)
  obtain⟨cur,hcu⟩:=rowD.kind h.don e
  exact hkeep k cur _ hcu (by decide) (by decide)
 ·refine owns_keep (h.din i x ps h1 h2) (fun k e=>?_)
  obtain⟨cur,hcu⟩:=rowKind (h.din i x ps h1 h2) e
  exact hkeep _ cur _ hcu (by decide) (by decide)
 ·intro k hk
  rcases hk with hk | hk | hk | hk | ⟨q9,e9,hk⟩
  ·exact .inl (.inl hk)
  ·exact .inl (.inr (.inl hk))
  ·exact .inl (.inr (.inr (.inl hk)))
  ·exact .inl (.inr (.inr (.inr (.inl hk))))
  ·cases e9
 ·rcases e with e | e
  ·exact .inl e
  ·exact .inr (.inr (.inr (.inr ⟨q,hq,.inl e⟩)))
theorem Rsd.abort{r:Ra}(h:Rsd w nb fr bl r)(hw:RWho w r rv who) :
  Calls Tryz.prog 82 #[rv] w fun e w'=>e=.returned (.int .i64 (askW who r.off))/\∃r',Rsd w' nb fr bl r'/\But (Rset r) w w'/\Rgr r r' w/\(askW who r.off≠0->r'=r)/\(askW who r.off=0->∃q,r.q=some q/\r'={ r with q:=none }/\∃pv mv,Rt5 w' q.g r.rb pv mv true):=by
 have HS:=h.state hw
 by_cases hc:askW who r.off=0
 ·obtain⟨rfl,hoff⟩:=askW_zero hc
  obtain⟨q,hq,rfl⟩:=hw
  have hsto:=h.sto
  rw[hoff]at hsto
  refine Calls.mono (rabort_ok hsto (h.tx q hq).blk) ?_
  rintro e w' ⟨rfl,q1,q2,q3⟩
  rw[<- hoff]at q2
  obtain⟨t1,t2,t3⟩:=h.ended hq q3 q2
  exact⟨by rw[hc],_,t1,t3,t2,fun e=>absurd hc e,fun _=>⟨q,hq,rfl,_,_,q1⟩⟩
 ·refine Calls.mono (rabort_no HS (by simp[hc])) ?_
  rintro e w' ⟨rfl,rfl⟩
  exact⟨rfl,r,h,But.refl _ _,Rgr.refl r _,fun _=>rfl,fun e=>absurd e hc⟩
def bgC (off opn:Bool):Int:=if off then 24 else if opn then 50 else 0
theorem Rsd.begin{r:Ra}(h:Rsd w nb fr bl r) :
  Calls Tryz.prog 83 #[.pointer (some ⟨r.rb,0,none⟩)] w fun e w'=>∃rv,e=.returned (.tuple #[rv,.int .i64 (bgC r.off r.q.isSome)])/\∃r',Rsd w' nb fr bl r'/\But (Rset r) w w'/\Rgr r r' w/\(bgC r.off r.q.isSome≠0->r'=r/\rv=.pointer none)/\(bgC r.off r.q.isSome=0->r.q=none/\r'={ r with q:=some ⟨w.heap.size,.slice none 0 0,.slice none 0 0,[],[]⟩ }/\rv=.pointer (some ⟨w.heap.size,0,none⟩)):=by
 have hsto:=h.sto
 by_cases hc:r.off=true\/r.q≠none
 ·have e1:bgC r.off r.q.isSome=if r.off then 24 else 50:=by
   unfold bgC
   cases ho:r.off
   ·cases hq:r.q
    ·rw[ho,hq]at hc;simp at hc
    ·rfl
   ·rfl
  unfold qPtr at hsto
  refine Calls.mono (rbegin_no hsto (hc.imp id (fun q e=>q (by simpa using e)))) ?_
  rintro e w' ⟨rfl,rfl⟩
  refine⟨_,by rw[e1],r,h,But.refl _ _,Rgr.refl r _,fun _=>⟨rfl,rfl⟩,fun e=>?_⟩
  rw[e1]at e
  cases ho:r.off <;> rw[ho]at e <;> simp at e
 ·have ho:r.off=false:=by
   cases ho:r.off
   ·rfl
   ·exact absurd (.inl ho) hc
  have hq:r.q=none:=Classical.byContradiction fun q=>hc (.inr q)
  have e1:bgC r.off r.q.isSome=0:=by rw[ho,hq];rfl
  rw[ho,hq]at hsto
  refine Calls.mono (rbegin_ok hsto) ?_
  rintro e w' ⟨rfl,q1,q2,q3⟩
  rw[e1]
  have hl:∀k,Rset r k->k<w.heap.size:=fun k hk=>h.lt hk
  have hkeep:∀(k:Nat) (cur:Array Value) (e:TypeId),w.heap[k]?=some (Obj.cells cur e (0,0))->e≠67->w'.heap[k]?=w.heap[k]?:=fun k cur e hc n2=>q3.block k (Array.getElem?_eq_some_iff.1 hc).1 (fun e2=>kind_ne hc h.sto n2 e2)
  refine⟨_,rfl,{ r with q:=some ⟨w.heap.size,.slice none 0 0,.slice none 0 0,[],[]⟩ },⟨?_,?_,h.fsl,?_,h.rsl,fun i x ps h1 h2=>?_,fun q9 e9=>?_,fun q9 e9 x hx=>?_⟩,q3.mono (fun k _ e=>.inl e),?_,fun e=>absurd rfl e,fun _=>⟨hq,rfl,rfl⟩⟩
  ·rw[<- ho]at q2
   exact q2
  ·refine owns_keep h.fst (fun k e=>?_)
   obtain⟨cur,hcu⟩:=rowKind h.fst e
   exact hkeep k cur _ hcu (by decide)
  ·refine rowD.keep h.don (fun k e=>?_)
   obtain⟨cur,hcu⟩:=rowD.kind h.don e
   exact hkeep k cur _ hcu (by decide)
  ·refine owns_keep (h.din i x ps h1 h2) (fun k e=>?_)
   obtain⟨cur,hcu⟩:=rowKind (h.din i x ps h1 h2) e
   exact hkeep _ cur _ hcu (by decide)
  ·cases e9
   exact⟨q1,World.ownsRow_nil _ _ _ _,World.ownsRow_nil _ _ _ _⟩
  ·cases e9
   simp[Value.ownBlock]
  ·intro k hk
   rcases hk with hk | hk | hk | hk | ⟨q9,e9,hk⟩
   ·exact .inl (.inl hk)
   ·exact .inl (.inr (.inl hk))
   ·exact .inl (.inr (.inr (.inl hk)))
   ·exact .inl (.inr (.inr (.inr (.inl hk))))
   ·cases e9
    rcases hk with hk | hk | hk
    ·exact .inr (Nat.le_of_eq hk.symm)
    ·simp[Value.ownBlock]at hk
    ·simp[Value.ownBlock]at hk
theorem Rsd.flush{r:Ra}(h:Rsd w nb fr bl r) :
  Calls Tryz.prog 42 #[.pointer (some ⟨r.rb,0,none⟩)] w fun e w'=>e=.returned (.int .i64 (if r.off then 24 else 0))/\∃sure',Rsd w' nb fr bl { r with sure:=sure' }/\But (Rset r) w w'/\sure'=if r.off then r.sure else (r.Ds.length:Int):=by
 have hsto:=h.sto
 by_cases ho:r.off=true
 ·rw[ho]at hsto
  refine Calls.mono (rflush_off hsto) ?_
  rintro e w' ⟨rfl,rfl⟩
  exact⟨by rw[if_pos ho],r.sure,h,But.refl _ _,by rw[if_pos ho]⟩
 ·have ho:r.off=false:=by simpa using ho
  rw[ho]at hsto
  obtain⟨da,dc,e1,_⟩:=h.done
  rw[e1]at hsto
  refine Calls.mono (rflush_on hsto) ?_
  rintro e w' ⟨rfl,q2,q3⟩
  rw[<- e1,<- ho]at q2
  have hkeep:∀(k:Nat) (cur:Array Value) (e:TypeId),w.heap[k]?=some (Obj.cells cur e (0,0))->e≠67->w'.heap[k]?=w.heap[k]?:=fun k cur e hc n2=>q3.block k (Array.getElem?_eq_some_iff.1 hc).1 (fun e2=>kind_ne hc h.sto n2 e2)
  refine⟨by rw[ho];rfl,(r.Ds.length:Int),⟨q2,?_,h.fsl,?_,h.rsl,fun i x ps h1 h2=>?_,fun q hq=>?_,h.ap⟩,q3.mono (fun k _ e=>.inl e),by rw[ho];rfl⟩
  ·refine owns_keep h.fst (fun k e=>?_)
   obtain⟨cur,hcu⟩:=rowKind h.fst e
   exact hkeep k cur _ hcu (by decide)
  ·refine rowD.keep h.don (fun k e=>?_)
   obtain⟨cur,hcu⟩:=rowD.kind h.don e
   exact hkeep k cur _ hcu (by decide)
  ·refine owns_keep (h.din i x ps h1 h2) (fun k e=>?_)
   obtain⟨cur,hcu⟩:=rowKind (h.din i x ps h1 h2) e
   exact hkeep _ cur _ hcu (by decide)
  ·have hT:=h.tx q hq
   refine hT.keep (hkeep _ _ _ hT.blk (by decide)) (fun k e=>?_) (fun k e=>?_)
   ·obtain⟨cur,hcu⟩:=rowKind hT.pr e
    exact hkeep k cur _ hcu (by decide)
   ·obtain⟨cur,hcu⟩:=rowKind hT.mr e
    exact hkeep k cur _ hcu (by decide)
theorem Rsd.owns{r:Ra}(h:Rsd w nb fr bl r)(hw:RWho w r rv who) :
  Calls Tryz.prog 44 #[.pointer (some ⟨r.rb,0,none⟩),rv] w fun e w'=>e=.returned (.int .i64 (askW who r.off))/\w'=w:=by
 have hsto:=h.sto
 cases who with
 | none=>
  obtain rfl:=hw
  exact rowns_nil r.rb
 | some b=>
  cases ho:r.off with
  | true=>
   rw[ho]at hsto
   cases b with
   | true=>
    obtain⟨q,hq,rfl⟩:=hw
    exact rowns_off hsto _
   | false=>
    obtain⟨g,pv,mv,rfl,hg⟩:=hw
    exact rowns_off hsto _
  | false=>
   rw[ho]at hsto
   cases b with
   | true=>
    obtain⟨q,hq,rfl⟩:=hw
    exact rowns_own hsto (h.tx q hq).blk
   | false=>
    obtain⟨g,pv,mv,rfl,hg⟩:=hw
    exact rowns_own hsto hg
end Go.Proofs.YthfojpcibnfmgaaGreat
