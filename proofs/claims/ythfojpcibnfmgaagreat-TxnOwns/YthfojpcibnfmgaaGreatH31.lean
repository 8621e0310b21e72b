import Derived.Test.YthfojpcibnfmgaaGreatH30
import Derived.Test.YthfojpcibnfmgaaGreatH26
set_option maxRecDepth 100000
set_option maxHeartbeats 16000000
namespace Go.Proofs.YthfojpcibnfmgaaGreat
variable {w w':World}
variable {K bl e e' fr j k lo m n n' nb p t x:Nat}
variable {xs:List Value}
variable {mv sv:Value}
variable {Y Z Z':Nat->Prop}
variable {a:Nat->Option Wr}
variable {ss:List Sp}
variable {ms:List Mr}
variable {d:Pd}
variable {s:Js}
variable {Ts:List Tn}
open Go.RowKit Go.Deep
def Lies (a:Nat->Option Wr) (ms:List Mr) (y:Nat) (r:Wr):Prop:=a y=some r\/∃(i p:Nat) (b:Nat->Option Wr),ms[i]?=some (p,b)/\b y=some r
def LofA (a:Nat->Option Wr) (val:Nat->List Int) (y:Nat):Option (List Int):=(a y).map (fun r=>val r.1)
structure Wm (Z:Nat->Prop) (w:World) (x j m n nb fr bl:Nat) (a:Nat->Option Wr) (sv mv:Value) (ss:List Sp) (ms:List Mr) (val:Nat->List Int):Prop where
 blk:Xb w x j m sv mv
 mp:∃D,w.ownsMap Tryz.prog 3 wrElem m n D/\AMx nb D a
 st:w.ownsRow 0 176 1 sv ss.length (ss.map stepV)
 mr:w.ownsRow 0 3 1 mv ms.length (ms.map (fun r=>Value.int .i64 ((r.1:Nat):Int)))
 dat:∀y r,Lies a ms y r->Own w r.1 512 r.2.1 (val r.1)/\Pl.isB (val r.1)/\(y<nb/\homeC nb fr bl (y:Int)=0)/\Z r.1
 sn:∀s∈ss,s.1<nb
 mks:Mk a ss ms
 zx:Z x
 zm:Z m
 zs:∀k,sv.ownBlock=some k->Z k
 zk:∀k,mv.ownBlock=some k->Z k
theorem own_cur5{g cap:Nat}{zs:List Int}(h:Own w g n cap zs):∃cur,w.heap[g]?=some (.cells cur 5 (0,0)):=by
 rcases h.2 with ⟨h1,_⟩ | ⟨g',cap',cur,hv,_,h2,_⟩
 ·cases h1
 ·cases hv
  exact⟨cur,h2⟩
theorem row_cur{base:Nat}{v:Value}(h:w.ownsRow base e 1 v n xs)(hk:v.ownBlock=some k):∃cur,w.heap[k]?=some (.cells cur e (0,0)):=by
 rcases h.2 with ⟨rfl,_⟩ | ⟨g,cap,cur,rfl,_,hg,_⟩
 ·simp[Value.ownBlock]at hk
 ·have:g=k:=by simpa [Value.ownBlock] using hk
  subst this
  exact⟨cur,hg⟩
theorem cells_ne{g:Nat}{c c':Array Value}(h:w.heap[g]?=some (.cells c e (0,0)))(h':w.heap[k]?=some (.cells c' e' (0,0)))(he:e≠e'):g≠k:=fun q=>by
 subst q
 rw[h]at h'
 injection h' with h'
 injection h' with _ h'
 exact he h'
theorem own_ne_x{g cap:Nat}{zs:List Int}(h:Own w g n cap zs)(hx:Xb w x j m sv mv):g≠x:=by
 obtain⟨cur,h⟩:=own_cur5 h
 exact cells_ne h hx (by decide)
theorem own_ne_row{g cap base nn:Nat}{zs:List Int}{v:Value}(h:Own w g n cap zs)(hr:w.ownsRow base e 1 v nn xs)(he:5≠e)(hk:v.ownBlock=some k):g≠k:=by
 obtain⟨cur,h⟩:=own_cur5 h
 obtain⟨cur',h'⟩:=row_cur hr hk
 exact cells_ne h h' he
theorem own_ne_map{g cap:Nat}{zs:List Int}{D:DataW Wr}(h:Own w g n cap zs)(hm:w.ownsMap Tryz.prog 3 wrElem m n' D):g≠m:=fun q=>by
 subst q
 obtain⟨cur,h⟩:=own_cur5 h
 obtain⟨es,ck,h1,_⟩:=hm
 rw[h]at h1
 cases h1
theorem Wm.lt{val:Nat->List Int}(h:Wm Z w x j m n nb fr bl a sv mv ss ms val):x<w.heap.size/\m<w.heap.size/\(∀k,sv.ownBlock=some k->k<w.heap.size)/\(∀k,mv.ownBlock=some k->k<w.heap.size):=by
 obtain⟨D,h1,_⟩:=h.mp
 exact⟨h.blk.lt,h1.lt,fun k e=>(World.ownsRow.lt h.st k e).2,fun k e=>(World.ownsRow.lt h.mr k e).2⟩
theorem Wm.keepZ{val:Nat->List Int}(h:Wm Z w x j m n nb fr bl a sv mv ss ms val)(hk:∀k,Z k->k<w.heap.size->w'.heap[k]?=w.heap[k]?)(hz:∀k,Z k->k<w.heap.size->Z' k):Wm Z' w' x j m n nb fr bl a sv mv ss ms val:=by
 obtain⟨l1,l2,l3,l4⟩:=h.lt
 obtain⟨D,h1,h2⟩:=h.mp
 exact { blk:=h.blk.keep (hk x h.zx l1),mp:=⟨D,mapW_keep h1 (hk m h.zm l2),h2⟩,st:=owns_keep h.st (fun k e=>hk k (h.zs k e) (l3 k e)),mr:=owns_keep h.mr (fun k e=>hk k (h.zk k e) (l4 k e)),dat:=fun y r q=>by { obtain⟨q1,q2,q3,q4⟩:=h.dat y r q;exact⟨q1.keep (hk _ q4 q1.lt),q2,q3,hz _ q4 q1.lt⟩ },sn:=h.sn,mks:=h.mks,zx:=hz x h.zx l1,zm:=hz m h.zm l2,zs:=fun k e=>hz k (h.zs k e) (l3 k e),zk:=fun k e=>hz k (h.zk k e) (l4 k e) }
theorem Wm.but{val:Nat->List Int}(h:Wm Z w x j m n nb fr bl a sv mv ss ms val)(hb:But Y w w')(hy:∀k,k<w.heap.size->Z k->¬Y k):Wm Z w' x j m n nb fr bl a sv mv ss ms val:=h.keepZ (fun k q hk=>hb.block k hk (hy k hk q)) (fun _ q _=>q)
theorem Wm.cut{val:Nat->List Int}(h:Wm Z w x j m n nb fr bl a sv mv ss ms val):Wm (fun k=>Z k/\k<w.heap.size) w x j m n nb fr bl a sv mv ss ms val:=h.keepZ (fun _ _ _=>rfl) (fun _ q hk=>⟨q,hk⟩)
theorem Wm.wq{val:Nat->List Int}(h:Wm Z w x j m n nb fr bl a sv mv ss ms val):∃D,Wq Z w x j m n nb fr bl D a sv mv (LofA a val):=by
 obtain⟨D,h1,h2⟩:=h.mp
 refine⟨D,⟨h.blk,h1,h2,fun y g cp k e=>?_,fun y e=>by simp[LofA,e],h.zx,h.zm⟩⟩
 obtain⟨q1,q2,q3,q4⟩:=h.dat y (g,cp,k) (.inl e)
 exact⟨val g,by simp[LofA,e],q1,q2,q3,q4⟩
theorem Wm.mark{val:Nat->List Int}(h:Wm Z w x j m n nb fr bl a sv mv ss ms val)(hM:ms.length<=1073741823) :
  Calls Tryz.prog 63 #[.pointer (some ⟨x,0,none⟩)] w fun e w'=>e=.returned (.int .i64 (ms.length:Int))/\∃mv' Z',Wm Z' w' x j m n nb fr bl a sv mv' ss (ms++[(ss.length,a)]) val/\(∀k,Z' k->k<w'.heap.size)/\Gr Z Z' w/\But Z w w':=by
 obtain⟨l1,l2,l3,l4⟩:=h.lt
 obtain⟨D,hm,hA⟩:=h.mp
 obtain⟨sa,sc,hsv,_⟩:=owns_slice h.st
 have hx:=h.blk
 rw[hsv]at hx
 refine Calls.mono (mark_raw hx h.mr hM) ?_
 rintro e w' ⟨rfl,g,cap,q1,q2,q3,q4⟩
 rw[<- hsv]at q1
 have s4:=q4.size
 have hgl:=(World.ownsRow.lt q2 g rfl).2
 refine⟨rfl,.slice (some ⟨g,0,none⟩) (ms.length+1) cap,fun k=>(Z k/\k<w.heap.size)\/(w.heap.size<=k/\k=g),?_,fun k q=>by rcases q with q | q <;> omega,fun k hk q=>by
  rcases q with q | q
  ·exact q.1
  ·omega,q4.mono (fun k _ e=>e.elim (fun e=>e ▸ h.zx) (h.zk k))⟩
 refine { blk:=q1,mp:=⟨D,mapW_keep hm (q4.block m l2 (fun e=>e.elim (fun e=>mapW_ne hm h.blk e.symm) (fun e=>mapW_row hm h.mr e rfl))),hA⟩,st:=owns_keep h.st (fun k e=>q4.block k (l3 k e) (fun e2=>e2.elim (row_ne_x h.st h.blk (by decide) e) (fun e2=>?_))),mr:=?_,dat:=fun y r q=>?_,sn:=h.sn,mks:=h.mks.mark,zx:=.inl ⟨h.zx,l1⟩,zm:=.inl ⟨h.zm,l2⟩,zs:=fun k e=>.inl ⟨h.zs k e,l3 k e⟩,zk:=fun k e=>?_ }
 ·obtain⟨c1,e1⟩:=row_cur h.st e
  obtain⟨c2,e3⟩:=row_cur h.mr e2
  exact cells_ne e1 e3 (by decide) rfl
 ·rw[List.map_append,List.length_append]
  exact q2
 ·have q':Lies a ms y r:=by
   rcases q with q | ⟨i,p,b,q,qb⟩
   ·exact .inl q
   ·rw[List.getElem?_append]at q
    split at q
    ·exact .inr ⟨i,p,b,q,qb⟩
    ·rename_i hi
     have h0:i-ms.length=0:=by
      rcases Nat.eq_zero_or_pos (i-ms.length) with z | z
      ·exact z
      ·rw[List.getElem?_eq_none (by simp;omega)]at q;cases q
     rw[h0]at q
     simp at q
     exact .inl (q.2 ▸ qb)
  obtain⟨r1,r2,r3,r4⟩:=h.dat y r q'
  exact⟨r1.keep (q4.block _ r1.lt (fun e=>e.elim (own_ne_x r1 h.blk) (fun e=>own_ne_row r1 h.mr (by decide) e rfl))),r2,r3,.inl ⟨r4,r1.lt⟩⟩
 ·have:g=k:=by simpa [Value.ownBlock] using e
  subst this
  rcases q3 with q3 | q3
  ·exact .inl ⟨h.zk _ q3,l4 _ q3⟩
  ·exact .inr ⟨q3,rfl⟩
theorem Wm.lay{val:Nat->List Int}(h:Wm Z w x j m n nb fr bl a sv mv ss ms val)(hn:n<=1073741823)(hns:ss.length<=1073741823)(y:Nat)(hy:y<nb)(hh:homeC nb fr bl (y:Int)=0)(hnb:nb<=524288)(ad:Addr)(cd:Nat)(zs:List Int)(hR:Rd w.heap.size w (some ad) 512 zs) :
  Calls Tryz.prog 65 #[.pointer (some ⟨x,0,none⟩),.int .i64 (y:Int),.slice (some ad) 512 cd] w fun e w'=>e=.returned (.tuple #[])/\∃a' sv' ss' val' Z',Wm Z' w' x j m (n+1) nb fr bl a' sv' mv ss' ms val'/\LofA a' val'=putL (LofA a val) y zs/\(∀(i p:Nat) (b:Nat->Option Wr),ms[i]?=some (p,b)->LofA b val'=LofA b val)/\ss'.length<=ss.length+1/\(∀k,Z' k->k<w'.heap.size)/\Gr Z Z' w/\But Z w w':=by
 obtain⟨l1,l2,l3,l4⟩:=h.lt
 obtain⟨D,hm,hA⟩:=h.mp
 obtain⟨ma,mc,hmv,_⟩:=owns_slice h.mr
 have hx:=h.blk
 rw[hmv]at hx
 obtain⟨ba,bn,bc,mk,ok,step,ss',hhas,hat,hc,hss,hmks⟩:∃ba bn bc mk ok step ss',Maps.has D (.int .i64 (y:Int))=ok/\(∀v ps,wrElem v=some (D.atKey (.int .i64 (y:Int)) .nil,ps)->v=.agg #[.slice ba bn bc,.int .i64 mk])/\((step=[]/\ms.length=0)\/(step=[]/\ms.length≠0/\ok=true/\¬mk<(ms.length:Int))\/(step=[.iface 169 (.int .i64 (y:Int))]/\ms.length≠0/\ok=false)\/(step=[.iface 171 (.agg #[.int .i64 (y:Int),.slice ba bn bc,.int .i64 mk])]/\ms.length≠0/\ok=true/\mk<(ms.length:Int)))/\(ss'.map stepV=ss.map stepV++step/\ss'.length=ss.length+step.length/\∀s∈ss',s.1<nb)/\∀g cp,Mk (putX a y (g,cp,(ms.length:Int))) ss' ms:=by
  cases ha:a y with
  | some r=>
   obtain⟨g,cp,k⟩:=r
   have hle:=h.mks.le y g cp k ha
   have hhas:=(hA.hit y _ ha).1
   have hat:∀v ps,wrElem v=some (D.atKey (.int .i64 (y:Int)) .nil,ps)->v=.agg #[.slice (some ⟨g,0,none⟩) 512 cp,.int .i64 k]:=fun v ps hv=>by
    rw[(hA.hit y _ ha).2]at hv
    exact wrElem_inv hv
   by_cases hz:ms=[]
   ·exact⟨_,_,_,_,true,[],ss,hhas,hat,.inl ⟨rfl,by simp[hz]⟩,⟨by simp,by simp,h.sn⟩,fun g' cp'=>h.mks.lay0 (.inl hz)⟩
   ·have hl:ms.length≠0:=fun e=>hz (List.length_eq_zero_iff.1 e)
    by_cases hk:k=(ms.length:Int)
    ·exact⟨_,_,_,_,true,[],ss,hhas,hat,.inr (.inl ⟨rfl,hl,rfl,by omega⟩),⟨by simp,by simp,h.sn⟩,fun g' cp'=>h.mks.lay0 (.inr ⟨g,cp,hk ▸ ha⟩)⟩
    ·refine⟨_,_,_,_,true,_,ss++[(y,a y)],hhas,hat,.inr (.inr (.inr ⟨rfl,hl,rfl,by omega⟩)),⟨by rw[List.map_append,ha];rfl,by simp,fun s hs=>?_⟩,fun g' cp'=>h.mks.lay1 y g' cp'⟩
     simp at hs
     rcases hs with hs | hs
     ·exact h.sn s hs
     ·rw[hs];exact hy
  | none=>
   have hhas:Maps.has D (.int .i64 (y:Int))=false:=hA.miss (y:Int) (fun z e=>by
    have:z=y:=by omega
    rw[this];exact ha)
   have hat:∀v ps,wrElem v=some (D.atKey (.int .i64 (y:Int)) .nil,ps)->v=.agg #[.slice none 0 0,.int .i64 0]:=fun v ps hv=>by
    rw[Maps.atKey_of_not_has hhas]at hv
    exact wrElem_nil hv
   by_cases hz:ms=[]
   ·exact⟨_,_,_,_,false,[],ss,hhas,hat,.inl ⟨rfl,by simp[hz]⟩,⟨by simp,by simp,h.sn⟩,fun g' cp'=>h.mks.lay0 (.inl hz)⟩
   ·have hl:ms.length≠0:=fun e=>hz (List.length_eq_zero_iff.1 e)
    refine⟨_,_,_,_,false,_,ss++[(y,a y)],hhas,hat,.inr (.inr (.inl ⟨rfl,hl,rfl⟩)),⟨by rw[List.map_append,ha];rfl,by simp,fun s hs=>?_⟩,fun g' cp'=>h.mks.lay1 y g' cp'⟩
    simp at hs
    rcases hs with hs | hs
    ·exact h.sn s hs
    ·rw[hs];exact hy
 have hisb:=hR.2.1
 refine Calls.mono (lay_raw hx hm h.st hn hns y hy hnb ad cd zs hR hhas hat step hc) ?_
 rintro e w' ⟨rfl,g,cp,sv',q1,q2,q3,q4,q5,q6,q7⟩
 rw[<- hmv]at q4
 have s7:=q7.size
 have hstl:step.length<=1:=by
  rcases hc with ⟨e,_⟩ | ⟨e,_⟩ | ⟨e,_⟩ | ⟨e,_⟩ <;> rw[e] <;> simp
 have hgl:g<w'.heap.size:=q2.lt
 have hsl:∀k,sv'.ownBlock=some k->k<w'.heap.size:=fun k e=>(World.ownsRow.lt q5 k e).2
 have hbz:∀k,k<w.heap.size->(k=m\/k=x\/sv.ownBlock=some k)->Z k:=fun k _ e=>by
  rcases e with e | e | e
  ·exact e ▸ h.zm
  ·exact e ▸ h.zx
  ·exact h.zs k e
 have hold:∀z r,Lies a ms z r->Own w' r.1 512 r.2.1 (val r.1)/\r.1<w.heap.size/\r.1≠g:=fun z r hl=>by
  obtain⟨r1,_,_,_⟩:=h.dat z r hl
  have hlt:=r1.lt
  refine⟨r1.keep (q7.block _ hlt (fun e=>?_)),hlt,by omega⟩
  rcases e with e | e | e
  ·exact own_ne_map r1 hm e
  ·exact own_ne_x r1 h.blk e
  ·exact own_ne_row r1 h.st (by decide) e rfl
 refine⟨rfl,putX a y (g,cp,(ms.length:Int)),sv',ss',fun b=>if b=g then zs else val b,fun k=>(Z k/\k<w.heap.size)\/(w.heap.size<=k/\k<w'.heap.size/\(k=g\/sv'.ownBlock=some k)),?_,?_,fun i p b e=>?_,by omega,fun k q=>by rcases q with q | q <;> omega,fun k hk q=>by
  rcases q with q | q
  ·exact q.1
  ·omega,q7.mono hbz⟩
 ·refine { blk:=q4,mp:=⟨_,q3,hA.put y hy _⟩,st:=?_,mr:=owns_keep h.mr (fun k e=>q7.block k (l4 k e) (fun e2=>?_)),dat:=fun z r q=>?_,sn:=hss.2.2,mks:=hmks g cp,zx:=.inl ⟨h.zx,l1⟩,zm:=.inl ⟨h.zm,l2⟩,zs:=fun k e=>?_,zk:=fun k e=>.inl ⟨h.zk k e,l4 k e⟩ }
  ·rw[hss.1,hss.2.1]
   exact q5
  ·rcases e2 with e2 | e2 | e2
   ·exact mapW_row hm h.mr e e2
   ·exact row_ne_x h.mr h.blk (by decide) e e2
   ·obtain⟨c1,e1⟩:=row_cur h.mr e
    obtain⟨c2,e3⟩:=row_cur h.st e2
    exact cells_ne e1 e3 (by decide) rfl
  ·by_cases hnew:z=y/\putX a y (g,cp,(ms.length:Int)) z=some r
   ·obtain⟨rfl,e⟩:=hnew
    have e':(g,cp,(ms.length:Int))=r:=by simpa [putX] using e
    subst e'
    exact⟨by simpa using q2,by simpa using hisb,⟨hy,hh⟩,.inr ⟨q1,hgl,.inl rfl⟩⟩
   ·have hl:Lies a ms z r:=by
     rcases q with q | q
     ·have hzy:z≠y:=fun e=>hnew ⟨e,q⟩
      exact .inl (by simpa [putX,hzy] using q)
     ·exact .inr q
    obtain⟨r1,r2,r3,r4⟩:=h.dat z r hl
    obtain⟨t1,t2,t3⟩:=hold z r hl
    exact⟨by simpa [t3] using t1,by simpa [t3] using r2,r3,.inl ⟨r4,t2⟩⟩
  ·rcases Nat.lt_or_ge k w.heap.size with e2 | e2
   ·refine .inl ⟨?_,e2⟩
    rcases q6 k e with e3 | e3
    ·exact h.zs k e3
    ·omega
   ·exact .inr ⟨e2,hsl k e,.inr e⟩
 ·funext z
  by_cases hz:z=y
  ·simp[LofA,putX,putL,hz]
  ·cases ha:a z with
   | none=>simp[LofA,putX,putL,hz,ha]
   | some r=>
    have:=(hold z r (.inl ha)).2.2
    simp[LofA,putX,putL,hz,ha,this]
 ·funext z
  cases hb:b z with
  | none=>simp[LofA,hb]
  | some r=>
   have:=(hold z r (.inr ⟨i,p,b,e,hb⟩)).2.2
   simp[LofA,hb,this]
theorem Wm.back{val:Nat->List Int}(h:Wm Z w x j m n nb fr bl a sv mv ss ms val)(hn:n+ss.length<=1073741823)(hM:ms.length<=1073741823)(hnb:nb<=524288)(k p:Nat)(b:Nat->Option Wr)(hk:ms[k]?=some (p,b)) :
  Calls Tryz.prog 67 #[.pointer (some ⟨x,0,none⟩),.int .i64 (k:Int)] w fun e w'=>e=.returned (.tuple #[])/\∃n' sv' mv',n'+p<=n+ss.length/\Wm (fun q=>Z q/\q<w.heap.size) w' x j m n' nb fr bl b sv' mv' (ss.take p) (ms.take (k+1)) val/\But Z w w':=by
 obtain⟨l1,l2,l3,l4⟩:=h.lt
 obtain⟨D,hm,hA⟩:=h.mp
 have hkl:k<ms.length:=(List.getElem?_eq_some_iff.1 hk).1
 obtain⟨hp,hu,_⟩:=h.mks.pos k p b hk
 obtain⟨sa,sc,hsv,_⟩:=owns_slice h.st
 obtain⟨mg,mc,hmv⟩:∃mg mc,mv=.slice (some ⟨mg,0,none⟩) ms.length mc:=by
  rcases h.mr.2 with ⟨_,q⟩ | ⟨g,cap,_,q,_⟩
  ·omega
  ·exact⟨g,cap,q⟩
 have hx:=h.blk
 have hst:=h.st
 have hmk:=h.mr
 rw[hsv,hmv]at hx
 rw[hsv]at hst
 rw[hmv]at hmk
 refine Calls.mono (back_raw (nb:=nb) (a:=a) (p:=p) hx hst hm hA hmk hn hkl hM rfl hp (by rw[List.getElem?_map,hk];rfl) hnb h.sn) ?_
 rintro e w' ⟨rfl,sv',n',D',q1,q2,q3,q4,q5,q6,q7,q8⟩
 rw[<- hsv]at q7 q8
 have s8:=q8.size
 rw[hu]at q6
 have hlp:(ss.take p).length=p:=by rw[List.length_take];omega
 have hlk:(ms.take (k+1)).length=k+1:=by rw[List.length_take];omega
 have hmgz:Z mg/\mg<w.heap.size:=by
  have e:mv.ownBlock=some mg:=by rw[hmv];rfl
  exact⟨h.zk mg e,l4 mg e⟩
 refine⟨rfl,n',sv',.slice (some ⟨mg,0,none⟩) (k+1) mc,by omega,?_,q8.mono (fun q _ e=>?_)⟩
 ·refine { blk:=q1,mp:=⟨D',q5,q6⟩,st:=?_,mr:=?_,dat:=fun y r q=>?_,sn:=fun s hs=>h.sn s (List.mem_of_mem_take hs),mks:=h.mks.back hk,zx:=⟨h.zx,l1⟩,zm:=⟨h.zm,l2⟩,zs:=fun q e=>⟨h.zs q (q7 q e),l3 q (q7 q e)⟩,zk:=fun q e=>?_ }
  ·rw[hlp]
   exact q2
  ·rw[hlk,List.map_take]
   exact q3
  ·have hl:Lies a ms y r:=by
    rcases q with q | ⟨i,p',b',q,qb⟩
    ·exact .inr ⟨k,p,b,hk,q⟩
    ·have hi:=(List.getElem?_eq_some_iff.1 q).1
     rw[hlk]at hi
     rw[List.getElem?_take_of_lt hi]at q
     exact .inr ⟨i,p',b',q,qb⟩
   obtain⟨r1,r2,r3,r4⟩:=h.dat y r hl
   refine⟨r1.keep (q8.block _ r1.lt (fun e=>?_)),r2,r3,⟨r4,r1.lt⟩⟩
   rcases e with e | e | e
   ·exact own_ne_map r1 hm e
   ·exact own_ne_x r1 h.blk e
   ·exact own_ne_row r1 h.st (by decide) e rfl
  ·have:mg=q:=by simpa [Value.ownBlock] using e
   exact this ▸ hmgz
 ·rcases e with e | e | e
  ·exact e ▸ h.zm
  ·exact e ▸ h.zx
  ·exact h.zs q e
open Go.RowKit Go.Deep
def StrL (w:World) (v:Value) (xs:List ByteArray):Prop:=∃a c,v=.slice a xs.length c/\∀i S,xs[i]?=some S->∃g,a=some ⟨g,0,none⟩/\g<w.heap.size/\w.cell? ⟨g,i,none⟩=some (.string S)
theorem StrL.of_row{base:Nat}{v:Value}{xs:List ByteArray}(hn:xs.length=n)(h:w.ownsRow base 9 1 v n (xs.map Value.string)):StrL w v xs:=by
 subst hn
 obtain⟨a,c,rfl,_⟩:=owns_slice h
 refine⟨a,c,rfl,fun i S hi=>?_⟩
 have hil:i<xs.length:=(List.getElem?_eq_some_iff.1 hi).1
 rcases h.2 with ⟨_,q⟩ | ⟨g,cap,cur,q1,q2,_⟩
 ·omega
 ·simp at q1
  have hlt:=(World.ownsRow.lt h g (by rw[q1.1];rfl)).2
  refine⟨g,q1.1,hlt,?_⟩
  have hcell:=World.ownsRow.cellAt (by rw[q1.1]at h;exact h) i (by simp;omega)
  rw[hcell]
  simp[hi]
open Go.RowKit Go.Deep
open Go.RowKit Go.Deep
theorem homeKeys_succ(nb:Nat)(L:Nat->Option (List Int)):homeKeys (nb+1) L=homeKeys nb L++(if (L nb).isSome then [nb] else []):=by
 unfold homeKeys
 rw[List.range_succ,List.filter_append]
 congr 1
 by_cases h:(L nb).isSome=true <;> simp[h]
def putsL (nb:Nat) (L:Nat->Option (List Int)):List (Nat×List Int):=(homeKeys nb L).map (fun y=>(y,(L y).getD []))
theorem ahead_putsL(nb:Nat)(L:Nat->Option (List Int))(x:Nat):aheadP (fun _=>none) (putsL nb L) x=if x<nb then L x else none:=by
 induction nb with
 | zero=>simp[putsL,homeKeys,aheadP]
 | succ nb ih=>
  unfold putsL at ih ⊢
  rw[homeKeys_succ,List.map_append]
  cases hL:L nb with
  | none=>
   simp only[Option.isSome_none,Bool.false_eq_true,if_false,List.map_nil,List.append_nil]
   rw[ih]
   by_cases h:x<nb
   ·rw[if_pos h,if_pos (by omega)]
   ·rw[if_neg h]
    by_cases h2:x=nb
    ·rw[if_pos (by omega),h2,hL]
    ·rw[if_neg (by omega)]
  | some zs=>
   simp only[Option.isSome_some,if_true,List.map_cons,List.map_nil,hL,Option.getD_some]
   rw[aheadP_snoc]
   simp only
   by_cases h2:x=nb
   ·rw[if_pos h2,if_pos (by omega),h2,hL]
   ·rw[if_neg h2,ih]
    by_cases h:x<nb
    ·rw[if_pos h,if_pos (by omega)]
    ·rw[if_neg h,if_neg (by omega)]
theorem contT_putsL(home:Nat->List Int)(Ts:List Tn)(nb:Nat)(L:Nat->Option (List Int))(hx:x<nb):contT home (Ts++[putsL nb L]) (Ts++[putsL nb L]).length x=(L x).getD (contT home Ts Ts.length x):=by
 unfold contT
 rw[List.take_of_length_le (Nat.le_refl _),List.take_of_length_le (Nat.le_refl _),<- after_append]
 show (aheadP (fun _=>none) ([putsL nb L]:List Tn).flatten x).getD (after home Ts x)=_
 rw[show ([putsL nb L]:List Tn).flatten=putsL nb L by simp,ahead_putsL,if_pos hx]
theorem standP_le(ps:List Pm):(standP ps).length<=ps.length:=by
 suffices H:∀(ps S:List Pm),(ps.foldl standStep S).length<=S.length+ps.length by
  have:=H ps []
  simpa [standP] using this
 intro ps
 induction ps with
 | nil=>intro S;simp
 | cons p ps ih=>
  intro S
  have h1:=ih (standStep S p)
  have h2:(standStep S p).length<=S.length+1:=by
   unfold standStep
   split <;> simp
  simp only[List.foldl_cons,List.length_cons]
  omega
theorem CmP.on{Zw:Nat->Prop}{c room:Nat}{L:Nat->Option (List Int)}{st:Nat}{e:Ending}{home:Nat->List Int}(H:CmP Z Zw w j c p room nb K fr bl d s L t st e w')(h:Jq Z w j c p room nb K fr bl d s)(ho:On d s nb fr bl lo home Ts)(hfu:d.fu=-1)(hlo:16<=bl)(hfit:fr+bl<=nb)(hnb:nb<=524288)(hsq:Ts.length<1099511627776)(hk:(homeKeys nb L).length<=bl / 2-4)(hh:∀y,y∈homeKeys nb L->homeC nb fr bl (y:Int)=0)(hZt:¬Z t)(hZs:¬Z st) :
  e=.returned (.int .i64 0)/\Stb w' st j (.pointer none)/\But (fun k=>Z k\/k=st\/k=t) w w'/\∃Z' d' s' Ts',Jq Z' w' j c p room nb K fr bl d' s'/\Gr Z Z' w/\d'.fu=-1/\On d' s' nb fr bl lo home Ts'/\Ts'.length<=Ts.length+1/\∀x,x<nb->contT home Ts' Ts'.length x=(L x).getD (contT home Ts Ts.length x):=by
 obtain⟨w3,q1,q2,q3,q4⟩:=H
 have hsl:=q2.lt
 rcases q4 with ⟨k1,rfl,rfl⟩ | ⟨k1,qs,k2,k3,k4⟩
 ·refine⟨rfl,q2,q3.mono (fun _ _ q=>.inr q),fun k=>Z k/\k<w.heap.size,d,s,Ts,h.cut.but q3 (fun k _ e1 e2=>e2.elim (fun q=>hZs (q ▸ e1.1)) (fun q=>hZt (q ▸ e1.1))),fun k _ q=>q.1,hfu,ho,by omega,fun x hx=>?_⟩
  have:L x=none:=by
   cases hL:L x with
   | none=>rfl
   | some zs=>
    have:x∈homeKeys nb L:=mem_homeKeys.2 ⟨hx,by rw[hL];rfl⟩
    rw[k1]at this
    cases this
  rw[this]
  rfl
 ·have hql:qs.length=(homeKeys nb L).length:=by
   have:=congrArg List.length k2
   simpa using this
  have hput:qs.map Pm.put=putsL nb L:=by
   have:qs.map Pm.put=(qs.map Pm.say).map fun x=>(x.1.toNat,x.2):=by rw[List.map_map];rfl
   rw[this,k2,List.map_map]
   unfold putsL
   refine List.map_congr_left (fun y _=>?_)
   simp
  have hpc:putsC nb fr bl qs=0:=putsC_zero (fun p hp=>by
   have hm:p.say∈qs.map Pm.say:=List.mem_map_of_mem hp
   rw[k2]at hm
   obtain⟨y,hy,e1⟩:=List.mem_map.1 hm
   obtain⟨_,_,_,_,_,e5⟩:=k3 p hp
   have e2:p.at_=(y:Int):=congrArg Prod.fst e1.symm
   unfold putC
   rw[e2,hh y hy,e5]
   simp)
  have hst:=standP_le qs
  have hap:appC nb fr bl d s qs=0:=by
   unfold appC
   rw[ho.on,hpc,if_neg (by decide),if_neg (by simp),if_neg (by omega),if_neg (by have:=ho.sq;omega)]
  have hA:=ho.append h.fits.1 hlo hfit hnb (fun p hp=>by obtain⟨_,_,_,_,e4,_⟩:=k3 p hp;exact e4) hap
  obtain⟨f1,_,f3⟩:=Pd.runs_free ho.on hfu (wlCmds nb fr bl s (appRecs qs))
  obtain⟨r1,⟨Z',s',r2,r3,r4⟩,r5⟩:=k4.1 hap
  rw[f1]at r1
  have hon:=hA.1 f1
  rw[hput,<- r3 f1]at hon
  refine⟨r1,q2.keep (r5.block st hsl (fun e=>hZs e.1)),(q3.mono (fun _ _ q=>.inr q)).comp r5 (fun k _ q=>.inl q.1),Z',_,s',Ts++[putsL nb L],r2,fun k hk q=>(r4 k (Nat.lt_of_lt_of_le hk q3.size) q).1,f3,hon,by simp,fun x hx=>contT_putsL home Ts nb L hx⟩
open Go.RowKit Go.Deep
def grow (Y:Nat->Prop) (w w':World) (k:Nat):Prop:=(Y k/\k<w.heap.size)\/(w.heap.size<=k/\k<w'.heap.size)
theorem grow.gr(Y:Nat->Prop)(w w':World):Gr Y (grow Y w w') w:=fun k hk q=>by
 rcases q with q | q
 ·exact q.1
 ·omega
def StA (Y:Nat->Prop) (w:World) (j c p st nb K fr bl:Nat) (d:Pd) (s:Js):Prop :=
 ∃Z,Jq Z w j c p 4 nb K fr bl d s/\(∀k,Z k->Y k)/\Stb w st j (.pointer none)/\¬Z st/\Y st
def StT (Y:Nat->Prop) (w:World) (j c p st nb K fr bl:Nat) (d:Pd) (s:Js) (t x m n:Nat) (L:Nat->Option (List Int)):Prop :=
 ∃Z Zw D a,Jq Z w j c p 4 nb K fr bl d s/\Wq Zw w x j m n nb fr bl D a (.slice none 0 0) (.slice none 0 0) L/\Txb w t j (.iface 122 (.pointer (some ⟨x,0,none⟩))) st (.pointer (some ⟨x,0,none⟩))/\Stb w st j (.pointer (some ⟨t,0,none⟩))/\(∀k,Z k->Y k)/\(∀k,Zw k->Y k/\¬Z k)/\(∀z g cp k,a z=some (g,cp,k)->g≠m)/\(x≠m/\st≠t)/\(¬Z t/\¬Zw t/\Y t)/\(¬Z st/\¬Zw st/\Y st)
open Go.RowKit Go.Deep
def growZ (Y Z:Nat->Prop) (w w':World) (k:Nat):Prop:=(Y k/\k<w.heap.size)\/(Z k/\w.heap.size<=k/\k<w'.heap.size)
theorem growZ.gr(Y Z:Nat->Prop)(w w':World):Gr Y (growZ Y Z w w') w:=fun k hk q=>by
 rcases q with q | q
 ·exact q.1
 ·omega
theorem growZ.of(hz:∀k,Z k->Y k)(hg:Gr Z Z' w)(hk:Z' k)(hl:k<w'.heap.size):growZ Y Z' w w' k:=by
 rcases Nat.lt_or_ge k w.heap.size with q | q
 ·exact .inl ⟨hz k (hg k q hk),q⟩
 ·exact .inr ⟨hk,q,hl⟩
open Go.RowKit Go.Deep
end Go.Proofs.YthfojpcibnfmgaaGreat
