import Derived.Test.YthfojpcibnfmgaaGreatV37
import Derived.Test.YthfojpcibnfmgaaGreatV01
import Derived.Deep.QuietTactic
import Derived.BigQuiet
set_option maxRecDepth 100000
set_option maxHeartbeats 16000000
namespace Go.Proofs.YthfojpcibnfmgaaGreat
variable {X Y Z Zw:Nat->Prop}
variable {w w':World}
variable {K L M bl fr j k lo m n nb p st t x:Nat}
variable {d:Pd}
variable {Ts:List Tn}
variable {ss:List Sp}
variable {ms:List Mr}
variable {o:Option OT}
variable {bv tv:Value}
variable {who:Option Bool}
variable {N:Int}
variable {zs:List Int}
open Go.RowKit Go.Deep
theorem CmP.any{c room:Nat}{s:Js}{L:Nat->Option (List Int)}{e:Ending}{home:Nat->List Int}(H:CmP Z Zw w j c p room nb K fr bl d s L t st e w')(h:Jq Z w j c p room nb K fr bl d s)(ho:On d s nb fr bl lo home Ts)(hlo:16<=bl)(hfit:fr+bl<=nb)(hnb:nb<=524288)(hsq:Ts.length<1099511627776)(hk:(homeKeys nb L).length<=bl / 2-4)(hh:∀y,y∈homeKeys nb L->homeC nb fr bl (y:Int)=0)(hZt:¬Z t)(hZs:¬Z st) :
  Stb w' st j (.pointer none)/\But (fun k=>Z k\/k=st\/k=t) w w'/\∃code Z' d' s',e=.returned (.int .i64 code)/\Jq Z' w' j c p room nb K fr bl d' s'/\Gr Z Z' w /\
   ((code=0/\homeKeys nb L=[]/\d'=d/\s'=s)\/(code=0/\homeKeys nb L≠[]/\On d' s' nb fr bl lo home (Ts++[putsL nb L]))\/(code=24/\homeKeys nb L≠[]/\d'.off=true/\Cut d' nb fr bl lo home (Ts++[putsL nb L]))):=by
 obtain⟨w3,q1,q2,q3,q4⟩:=H
 have hsl:=q2.lt
 rcases q4 with ⟨k1,rfl,rfl⟩ | ⟨k1,qs,k2,k3,k4⟩
 ·exact⟨q2,q3.mono (fun _ _ q=>.inr q),0,fun k=>Z k/\k<w.heap.size,d,s,rfl,h.cut.but q3 (fun k _ e1 e2=>e2.elim (fun q=>hZs (q ▸ e1.1)) (fun q=>hZt (q ▸ e1.1))),fun k _ q=>q.1,.inl ⟨rfl,k1,rfl,rfl⟩⟩
 ·have hql:qs.length=(homeKeys nb L).length:=by
   have:=congrArg List.length k2
   simpa using this
  have hput:qs.map Pm.put=putsL nb L:=by
   have:qs.map Pm.put=(qs.map Pm.say).map fun x=>(x.1.toNat,x.2):=by rw[List.map_map];rfl
   rw[this,k2,List.map_map]
   unfold putsL
   refine List.map_congr_left (fun y _=>?_)
   simp
  have hpc:putsC nb fr bl qs=0:=putsC_zero (fun p hp=>by
   have hm:p.say∈qs.map Pm.say:=List.mem_map_of_mem hp
   rw[k2]at hm
   obtain⟨y,hy,e1⟩:=List.mem_map.1 hm
   obtain⟨_,_,_,_,_,e5⟩:=k3 p hp
   have e2:p.at_=(y:Int):=congrArg Prod.fst e1.symm
   unfold putC
   rw[e2,hh y hy,e5]
   simp)
  have hst:=standP_le qs
  have hap:appC nb fr bl d s qs=0:=by
   unfold appC
   rw[ho.on,hpc,if_neg (by decide),if_neg (by simp),if_neg (by omega),if_neg (by have:=ho.sq;omega)]
  have hA:=ho.append h.fits.1 hlo hfit hnb (fun p hp=>by obtain⟨_,_,_,_,e4,_⟩:=k3 p hp;exact e4) hap
  obtain⟨r1,⟨Z',s',r2,r3,r4⟩,r5⟩:=k4.1 hap
  rw[hput]at hA
  refine⟨q2.keep (r5.block st hsl (fun e=>hZs e.1)),(q3.mono (fun _ _ q=>.inr q)).comp r5 (fun k _ q=>.inl q.1),_,Z',_,s',r1,r2,fun k hk q=>(r4 k (Nat.lt_of_lt_of_le hk q3.size) q).1,.inr ?_⟩
  by_cases hc:(d.runs (wlCmds nb fr bl s (appRecs qs))).1=0
  ·refine .inl ⟨hc,k1,?_⟩
   have hon:=hA.1 hc
   rw[<- r3 hc]at hon
   exact hon
  ·obtain⟨o1,o2⟩:=Pd.runs_off hc
   exact .inr ⟨o1,k1,o2,hA.2 hc⟩
theorem StM.commitF{c:Nat}{s:Js}{a:Nat->Option Wr}{val:Nat->List Int}(h:StM Y w j c p st nb K fr bl d s t x m n a ss ms val){home:Nat->List Int}(ho:On d s nb fr bl lo home Ts)(hlo:16<=bl)(hfit:fr+bl<=nb)(hnb:nb<=524288)(hsq:Ts.length<1099511627776)(hk:(homeKeys nb (LofA a val)).length<=bl / 2-4)(hh:∀y,y∈homeKeys nb (LofA a val)->homeC nb fr bl (y:Int)=0) :
  Calls Tryz.prog 34 #[.pointer (some ⟨t,0,none⟩)] w fun e w'=>∃code Y' d' s',e=.returned (.int .i64 code)/\StA Y' w' j c p st nb K fr bl d' s'/\((code=0/\homeKeys nb (LofA a val)=[]/\d'=d/\s'=s)\/(code=0/\homeKeys nb (LofA a val)≠[]/\On d' s' nb fr bl lo home (Ts++[putsL nb (LofA a val)]))\/(code=24/\homeKeys nb (LofA a val)≠[]/\d'.off=true/\Cut d' nb fr bl lo home (Ts++[putsL nb (LofA a val)])))/\Txb w' t j .nilIface st (.pointer none)/\¬Y' t/\(∀k,Y' k->k<w'.heap.size)/\Gr Y Y' w/\But Y w w':=by
 obtain⟨Z,Zw,sv,mv,q1,q2,q3,q4,q5,q6,q8,q9,q10⟩:=h
 obtain⟨D,hWq⟩:=q2.wq
 have hpl:=ho.puts hlo hfit hnb
 refine Calls.mono (commit_any q1 (ho.jn hlo hfit hnb) hWq (fun k _ e=>(q6 k e).2) ho.on (by omega) hnb q3 q4 q8 q9.1 q10.1 q9.2.1 q10.2.1) ?_
 intro e w' H
 have hT:=H.txb q9.1
 obtain⟨r2,r3,code,Z',d',s',r1,r4,r5,r7⟩:=H.any q1 ho hlo hfit hnb hsq hk hh q9.1 q10.1
 have hs:=r3.size
 refine⟨code,fun k=>growZ Y Z' w w' k/\k≠t,d',s',r1,⟨fun k=>Z' k/\k<w'.heap.size,r4.cut,fun k e=>⟨growZ.of q5 r5 e.1 e.2,fun q=>q9.1 (r5 t q3.lt (q ▸ e.1))⟩,r2,fun e=>q10.1 (r5 st q4.lt e.1),.inl ⟨q10.2.2,q4.lt⟩,q8⟩,r7,hT,fun e=>e.2 rfl,fun k q=>by rcases q.1 with q | q <;> omega,fun k hk q=>growZ.gr _ _ _ _ k hk q.1,r3.mono (fun k _ e=>?_)⟩
 rcases e with e | e | e
 ·exact q5 k e
 ·exact e ▸ q10.2.2
 ·exact e ▸ q9.2.2
def CmL (nb fr bl lo:Nat) (home:Nat->List Int) (Ts:List Tn) (A:Nat->Option (List Int)) (ps:List Pu) (d d':Pd) (s s':Js) (code:Int):Prop :=
 (code=44/\bl / 2-4<cntU ps ps.length/\d'=d/\s'=s)\/(code=0/\cntU ps ps.length=0/\d'=d/\s'=s)\/(code=0/\0<cntU ps ps.length/\cntU ps ps.length<=bl / 2-4/\On d' s' nb fr bl lo home (Ts++[putsL nb A]))\/(code=24/\0<cntU ps ps.length/\cntU ps ps.length<=bl / 2-4/\d'.off=true/\Cut d' nb fr bl lo home (Ts++[putsL nb A]))
theorem StO.commitF{c:Nat}{s:Js}(h:StO Y w j c p st nb K fr bl d s o)(hlo:16<=bl)(hfit:fr+bl<=nb)(hnb:nb<=524288)(hw:PWho w j st o tv who){ps:List Pu}(hq:∀q,o=some q->Lku nb fr bl (LofA q.a q.val) ps){home:Nat->List Int}(hon:d.off=false->On d s nb fr bl lo home Ts)(hT:Ts.length<1099511627776) :
  Calls Tryz.prog 34 #[tv] w fun e w'=>∃code Y' o' d' s',e=.returned (.int .i64 code)/\StO Y' w' j c p st nb K fr bl d' s' o'/\(askW who d.off≠0->code=askW who d.off/\o'=o/\d'=d/\s'=s)/\(askW who d.off=0->∃q,o=some q/\o'=none/\Txb w' q.t j .nilIface st (.pointer none)/\¬Y' q.t/\CmL nb fr bl lo home Ts (LofA q.a q.val) ps d d' s s' code)/\(∀k,Y' k->k<w'.heap.size)/\Gr Y Y' w/\But Y w w':=by
 have HS:=h.ask hw
 by_cases hc:askW who d.off=0
 ·obtain⟨rfl,ho⟩:=askW_zero hc
  obtain⟨q,rfl,rfl⟩:=hw
  have hL:=hq q rfl
  have hO:=hon ho
  by_cases hlg:bl / 2-4<cntU ps ps.length
  ·refine Calls.mono (StM.commitLarge h hO hlo hfit hnb (by rw[hL.count];exact hlg) hL.keys) ?_
   rintro e w' ⟨Y',rfl,r1,r2,r3,r4⟩
   exact⟨44,Y',none,d,s,rfl,r1,fun e=>absurd hc e,fun _=>⟨q,rfl,rfl,r2,r3,.inl ⟨rfl,hlg,rfl,rfl⟩⟩,r4⟩
  ·refine Calls.mono (StM.commitF h hO hlo hfit hnb hT (by rw[hL.count];omega) hL.keys) ?_
   rintro e w' ⟨code,Y',d',s',rfl,r1,r2,r6,r7,r8⟩
   have hz:∀l:List Nat,l≠[]->0<l.length:=fun l q=>by cases l with | nil=>exact absurd rfl q | cons _ _=>simp
   refine⟨code,Y',none,d',s',rfl,r1,fun e=>absurd hc e,fun _=>⟨q,rfl,rfl,r6,r7,.inr ?_⟩,r8⟩
   rcases r2 with ⟨a1,a2,a3,a4⟩ | ⟨a1,a2,a3⟩ | ⟨a1,a2,a3,a4⟩
   ·exact .inl ⟨a1,by rw[<- hL.count,a2];rfl,a3,a4⟩
   ·exact .inr (.inl ⟨a1,by rw[<- hL.count];exact hz _ a2,by omega,a3⟩)
   ·exact .inr (.inr ⟨a1,by rw[<- hL.count];exact hz _ a2,by omega,a3,a4⟩)
 ·refine Calls.mono (tcommit_no HS (ne_bne hc)) ?_
  rintro e w' ⟨rfl,b⟩
  exact⟨_,fun k=>Y k/\k<w.heap.size,o,d,s,rfl,h.cut.below b,fun _=>⟨rfl,rfl,rfl,rfl⟩,fun e=>absurd e hc,fun k e=>Nat.lt_of_lt_of_le e.2 b.size,fun k _ e=>e.1,But.of_below b⟩
theorem StO.flushF{c:Nat}{s:Js}(h:StO Y w j c p st nb K fr bl d s o){home:Nat->List Int}(ho:On d s nb fr bl lo home Ts)(hlo:16<=bl)(hfit:fr+bl<=nb)(hnb:nb<=524288) :
  Calls Tryz.prog 30 #[.pointer (some ⟨st,0,none⟩)] w fun e w'=>∃code Y' d' s',e=.returned (.int .i64 code)/\StO Y' w' j c p st nb K fr bl d' s' o/\((code=0/\s'=s/\On d' s nb fr bl Ts.length home Ts)\/(code=24/\d'.off=true/\Cut d' nb fr bl lo home Ts))/\(∀k,Y' k->k<w'.heap.size)/\Gr Y Y' w/\But Y w w':=by
 obtain⟨_,_,_,hS,_⟩:=h.jq
 obtain⟨Z,hJ,hcl⟩:=h.open
 have hpl:=ho.puts hlo hfit hnb
 refine Calls.mono (sflush_on hJ ho.on (by omega) hS) ?_
 rintro e w' ⟨rfl,⟨Z',s',r1,r2,r3⟩,r4⟩
 obtain⟨Y',q1,q2,q3,q4⟩:=hcl w' K _ _ ⟨Z',r1,r3⟩ r4
 refine⟨_,Y',_,s',rfl,q1,?_,q2,q3,q4⟩
 have hF:=ho.flush hJ.fits.1 hlo hfit hnb
 by_cases hc:(d.runs [.fl]).1=0
 ·exact .inl ⟨hc,r2 hc,hF.1 hc⟩
 ·obtain⟨o1,o2⟩:=Pd.runs_off hc
  exact .inr ⟨o1,o2,hF.2 hc⟩
theorem Cq.fuseF{c room:Nat}(h:Cq Z w c p room nb K d)(hon:d.off=false)(f:Int)(hf1:-1<=f)(hf2:f<=9223372036854775807) :
  Calls Tryz.prog 17 #[.pointer (some ⟨p,0,none⟩),.int .i64 f] w fun e w'=>(∃v,e=.returned (.int .i64 v))/\(∃Z',Cq Z' w' c p room nb K ⟨d.img,d.puts,f,d.off⟩/\Gr Z Z' w)/\But Z w w':=by
 obtain⟨X,Y,hi,mi,l,h1,h2,h3,h4,h5,h6,h7⟩:=h
 refine Calls.mono (Fuse_any h1.dk f hf2) ?_
 rintro e w' ⟨rfl,d1,b1⟩
 have e1:fuseR d.off f=0:=by
  unfold fuseR
  rw[hon,if_neg (by decide),if_neg (by omega)]
 rw[e1,if_pos rfl]at d1
 refine⟨⟨_,rfl⟩,?_,b1.mono (fun k _ q=>h2 k q)⟩
 exact Cq.mk' (X:=X) (Y:=Y) (X':=X) (Y':=fun k=>Y k/\k<w.heap.size) (hi:=hi) (mi:=mi) (l:=l) (d:=⟨d.img,d.puts,f,d.off⟩) ⟨h1.ca.cut.but b1 (fun k q=>h1.dj k q.1),d1,fun k q q'=>h1.dj k q.1 q'⟩ (fun k _=>⟨id,fun q=>q.1⟩) h2 h3 h5 h6 h7
theorem StO.fuseF{c:Nat}{s:Js}(h:StO Y w j c p st nb K fr bl d s o)(hon:d.off=false)(f:Int)(hf1:-1<=f)(hf2:f<=9223372036854775807) :
  Calls Tryz.prog 17 #[.pointer (some ⟨p,0,none⟩),.int .i64 f] w fun e w'=>∃v Y',e=.returned (.int .i64 v)/\StO Y' w' j c p st nb K fr bl ⟨d.img,d.puts,f,d.off⟩ s o/\(∀k,Y' k->k<w'.heap.size)/\Gr Y Y' w/\But Y w w':=by
 obtain⟨Z,⟨Zc,m,n,D,a,h1⟩,hcl⟩:=h.open
 refine Calls.mono (h1.cq.fuseF hon f hf1 hf2) ?_
 rintro e w' ⟨⟨v,rfl⟩,q⟩
 obtain⟨q1,q2⟩:=h1.lift q
 obtain⟨Y',r⟩:=hcl w' _ _ _ q1 q2
 exact⟨v,Y',rfl,r⟩
open Go.RowKit
abbrev DV:=Value×Value×Value×Value×Value
def Lnd (D:DV) (w:World) (L:Nat) (bv:Value) (N:Int):Prop:=w.heap[L]?=some (.cells #[D.1,D.2.1,D.2.2.1,D.2.2.2.1,D.2.2.2.2,bv,.int .i64 N] 58 (0,0))
theorem Lnd.lt{D:DV}(h:Lnd D w L bv N):L<w.heap.size:=(Array.getElem?_eq_some_iff.1 h).1
theorem Lnd.buf{D:DV}(h:Lnd D w L bv N):w.cell? ⟨L,5,none⟩=some bv:=by unfold Lnd at h;simp[World.cell?,h]
theorem Lnd.num{D:DV}(h:Lnd D w L bv N):w.cell? ⟨L,6,none⟩=some (.int .i64 N):=by unfold Lnd at h;simp[World.cell?,h]
theorem Lnd.frozen{D:DV}(h:Lnd D w L bv N)(t:Nat):w.frozen? ⟨L,t,none⟩=false:=by unfold Lnd at h;simp[World.frozen?,h]
theorem Lnd.of_block{D:DV}(h:Lnd D w L bv N)(hw:w'.heap[L]?=w.heap[L]?):Lnd D w' L bv N:=by unfold Lnd at *;rw[hw];exact h
theorem Lnd.setOther{D:DV}(h:Lnd D w L bv N){p:Addr}(hp:L≠p.block)(u:Value):Lnd D (w.setCell p u) L bv N:=h.of_block (Below.heap_setCell _ _ _ _ hp)
theorem Lnd.alloc{D:DV}(h:Lnd D w L bv N)(o:Obj):Lnd D (w.alloc o) L bv N:=h.of_block (Below.heap_alloc _ _ _ h.lt)
theorem Lnd.setBuf{D:DV}(h:Lnd D w L bv N)(u:Value):Lnd D (w.setCell ⟨L,5,none⟩ u) L u N:=by
 unfold Lnd at *
 simp only[World.setCell,Array.getElem?_modify]
 rw[h]
 simp
theorem Lnd.setNum{D:DV}(h:Lnd D w L bv N)(u:Int):Lnd D (w.setCell ⟨L,6,none⟩ (.int .i64 u)) L bv u:=by
 unfold Lnd at *
 simp only[World.setCell,Array.getElem?_modify]
 rw[h]
 simp
def mk (i:Nat):Int:=(203-5 * (i:Int)) % 256
def lent (zs:List Int):List Int:=zs++(List.range (zs.length+70)).map fun i=>mk (zs.length+i)
theorem length_lent(zs:List Int):(lent zs).length=2 * zs.length+70:=by simp[lent];omega
theorem lent_lo(h:k<zs.length):(lent zs).getD k 0=zs.getD k 0:=by
 simp[lent,h,List.getElem?_append_left]
theorem lent_hi(h:zs.length<=k)(h2:k<2 * zs.length+70):(lent zs).getD k 0=mk k:=by
 have h3:k-zs.length<zs.length+70:=by omega
 simp[lent,List.getElem?_append_right h,h3]
 congr 1
 omega
theorem mark_any(p:Value)(i:Nat)(w:World)(h:i<=1073741824) :
  Calls Tryz.prog 146 #[p,.int .i64 (i:Int)] w fun e w'=>e=.returned (.int .u8 (mk i))/\w'=w:=by
 go_enter Tryz.func146,Tryz.ntmps146
 go_wp2
 go_ret
 exact⟨rfl,rfl⟩
theorem Lnd.but{D:DV}(h:Lnd D w L bv N)(hb:But X w w')(hx:¬X L):Lnd D w' L bv N:=h.of_block (hb.block L h.lt hx)
open Go.RowKit
theorem Back_ok {D:DV} (L G M:Nat) (a:Option Addr) (n c:Nat) (ys zs:List Int) (w:World) (hn:n<=16777216) (hB:Blk .u8 5 w G ys) (hyl:ys.length=M) (hyt:ys.take (2 * n+70)=lent zs) (hL:Lnd D w L (.slice (some ⟨G,0,none⟩) M M) n) (hGL:L≠G) (hM:2 * n+70<=M) (hM2:M<=1073741824)
  (hR:RdN (fun x=>x=L\/x=G) w a n zs) :
  Calls Tryz.prog 120 #[.pointer (some ⟨L,5,none⟩),.slice a n c] w fun e w'=>∃ys',e=.returned (.bool true)/\Blk .u8 5 w' G ys'/\ys'.length=M/\Lnd D w' L (.slice (some ⟨G,0,none⟩) M M) n/\But (fun x=>x=G) w w':=by
 have hzl:=hR.1
 have hget:∀j,j<2 * n+70->ys.getD j 0=(lent zs).getD j 0:=by
  intro j hj
  rw[<- hyt,List.getD_eq_getElem?_getD,List.getD_eq_getElem?_getD,List.getElem?_take_of_lt hj]
 have r1:∀q,Rd w.heap.size (w.drewN q) (some ⟨G,0,none⟩) n zs:=fun q=>⟨hzl,hR.2.1,.inr ⟨G,0,rfl,hB.lt,fun t ht=>by
  have h:=hB.cell t (by omega)
  rw[hget t (by omega),lent_lo (by omega)]at h
  rw[Nat.zero_add]
  exact h⟩⟩
 have e1:=fun q=>conv_str (r1 q) M
 have e2:∀q,(convert 40 9 (.slice a n c)).run Tryz.prog (w.drewN q)=.ok (.string (strOfNums zs)) (w.drewN q):=fun q=>conv_str (hR.but ((But.refl _ w).drewN q)).rd c
 have hbuf:=hL.buf
 have hnum:=hL.num
 have hnM:(n:Int)<=(M:Int):=by omega
 have HR:=hid hR
 have HG:=hid hget
 clear hR hget r1
 generalize strOfNums zs=s at *
 go_enter Tryz.func120,Tryz.ntmps120
 go_wp2_with fail
 go_quiet (fail)
 go_wp2
 clear e1 e2 hbuf hnum
 go_loopw [5,6] (fun ok i wt=>∃j:Nat,n<=j/\j<=2 * n+70/\i=.int .i64 (j:Int)/\ok=.bool true/\But (fun _=>False) w wt) (fun _ i _=>2 * n+70-(intOf i).toNat)
 case atStart=>exact⟨n,Nat.le_refl _,by omega,rfl,by simp,(But.refl _ _).drewN _⟩
 case round=>
  obtain⟨j,hj1,hj2,rfl,rfl,hbt⟩:=hrel
  have hL2:=hL.but hbt (fun h=>h)
  have hnum:=hL2.num
  have hbuf:=hL2.buf
  by_cases hjn:j<2 * n+70
  ·have hcell:=(hB.but hbt (fun h=>h)).cell j (by omega)
   rw[HG.out j hjn,lent_hi (by omega) (by omega)]at hcell
   have hk2:(j:Int)<(M:Int):=by omega
   go_wp2_with fail
   go_quiet ((go_at_call 146;exact Calls.quiet_of_same (mark_any _ _ _ (by omega))))
   go_wp2
   go_roundw
   case rel=>exact⟨j+1,by omega,by omega,by go_num,by simp,hbt.drewN _⟩
   case measure=>simp[intOf];omega
  ·have HB:=hid (hB.but hbt (fun h=>h))
   have Hyl:=hid hyl
   have HL:=hid hL2
   have Hb:=hid (hbt.mono (Y:=fun x=>x=G) (fun _ _ h=>h.elim))
   clear hB hyl hL hL2 hbt
   go_wp2
   go_loopw [7] (fun i wt=>∃(k:Nat) (ys':List Int),k<=n/\i=.int .i64 (k:Int)/\Blk .u8 5 wt G ys'/\ys'.length=M/\Lnd D wt L (.slice (some ⟨G,0,none⟩) M M) n/\But (fun x=>x=G) w wt) (fun i _=>n-(intOf i).toNat)
   case atStart=>exact⟨0,ys,Nat.zero_le _,rfl,HB.out,Hyl.out,HL.out,Hb.out⟩
   case round=>
    clear HB Hyl HL Hb hnum hbuf
    obtain⟨k,ys',hk,rfl,hB,hyl,hL,hbt⟩:=hrel
    have hnum:=hL.num
    have hbuf:=hL.buf
    by_cases hkn:k<n
    ·have hcell:=hB.cell k (by omega)
     have hfr:=hB.frozen k
     have hk2:(k:Int)<(M:Int):=by omega
     have HB:=hid (hB.set k 120)
     have Hyl:=hid hyl
     have HL:=hid (hL.setOther (p:=⟨G,k,none⟩) (by exact hGL) (.int .u8 120))
     have Hb:=hid (hbt.setCell (p:=⟨G,k,none⟩) rfl (.int .u8 120))
     clear hB hyl hL hbt
     go_wp2
     go_roundw
     case rel=>exact⟨k+1,_,by omega,by go_num,HB.out,by simpa using Hyl.out,HL.out,Hb.out⟩
     case measure=>simp[intOf];omega
    ·have HB:=hid hB
     have Hyl:=hid hyl
     have HL:=hid hL
     clear hB hyl hL
     go_wp2
     go_ret
     exact⟨ys',rfl,HB.out,Hyl.out,HL.out,hbt⟩
open Go.RowKit
theorem Lend_old {D:DV} (L G M:Nat) (N:Int) (a:Option Addr) (n c:Nat) (ys0 zs:List Int) (w:World) (hn:n<=16777216) (hB0:Blk .u8 5 w G ys0) (hl0:ys0.length=M) (hL0:Lnd D w L (.slice (some ⟨G,0,none⟩) M M) N) (hGL:L≠G) (hM:2 * n+70<=M) (hM2:M<=1073741824)
  (hR:RdN (fun x=>x=L\/x=G) w a n zs) :
  Calls Tryz.prog 118 #[.pointer (some ⟨L,5,none⟩),.slice a n c] w fun e w'=>∃(G' M':Nat) (ys:List Int),e=.returned (.slice (some ⟨G',0,none⟩) n (2 * n+70))/\Blk .u8 5 w' G' ys/\ys.length=M'/\ys.take (2 * n+70)=lent zs/\Lnd D w' L (.slice (some ⟨G',0,none⟩) M' M') n/\G'=G/\M'=M/\But (fun x=>x=L\/x=G) w w':=by
 obtain⟨hzl,hzb,hsrc⟩:=hR
 obtain⟨W,hW⟩:∃W,W=w:=⟨_,rfl⟩
 subst hW
 have hbuf0:=hL0.buf
 have hlt:¬((M:Int)<2 * (n:Int)+70):=by omega
 go_enter Tryz.func118,Tryz.ntmps118
 go_wp2
 clear hbuf0 hlt
 go_loopw [5] (fun i wt=>∃(k:Nat) (ys:List Int),k<=n/\i=.int .i64 (k:Int)/\Blk .u8 5 wt G ys/\ys.length=M/\ys.take k=(lent zs).take k/\Lnd D wt L (.slice (some ⟨G,0,none⟩) M M) N/\But (fun x=>x=L\/x=G) W wt) (fun i _=>n-(intOf i).toNat)
 case atStart=>exact⟨0,ys0,Nat.zero_le _,rfl,hB0,hl0,rfl,hL0,But.refl _ _⟩
 case round=>
  obtain⟨k,ys,hk,rfl,hB,hyl,htk,hL,hbt⟩:=hrel
  by_cases hkn:k<n
  ·obtain⟨b,off,rfl,hb,hbx,hc⟩:=hsrc.resolve_left (by omega)
   have hcs:=(hbt.cell (p:=⟨b,off+k,none⟩) hb hbx).trans (hc k hkn)
   have hbuf:=hL.buf
   have hcell:=hB.cell k (by omega)
   have hfr:=hB.frozen k
   have hk1:(k:Int)<(n:Int):=by omega
   have hk2:(k:Int)<(M:Int):=by omega
   have HB:=hid (hB.set k (zs.getD k 0))
   have HT:=hid (take_set (ys:=ys) (k:=k) (z:=zs.getD k 0) (l:=lent zs) (by omega) (by rw[length_lent];omega) htk (lent_lo (by omega)).symm)
   have HL:=hid (hL.setOther (p:=⟨G,k,none⟩) (by exact hGL) (.int .u8 (zs.getD k 0)))
   have Hb:=hid (hbt.setCell (p:=⟨G,k,none⟩) (.inr rfl) (.int .u8 (zs.getD k 0)))
   have Hyl:=hid hyl
   generalize ys.getD k 0=old at *
   generalize zs.getD k 0=z at *
   clear hB htk hL hbt hc hyl hsrc
   go_wp2
   go_region
   all_goals go_wp2
   all_goals
    go_roundw
    case rel=>exact⟨k+1,_,by omega,by go_num,HB.out.drew,by simpa using Hyl.out,HT.out,HL.out,Hb.out.drew⟩
    case measure=>simp[intOf];omega
  ·have e:k=n:=by omega
   subst e
   clear hkn hk
   go_wp2
   go_loopw [6] (fun i wt=>∃(j:Nat) (ys:List Int),k<=j/\j<=2 * k+70/\i=.int .i64 (j:Int)/\Blk .u8 5 wt G ys/\ys.length=M/\ys.take j=(lent zs).take j/\Lnd D wt L (.slice (some ⟨G,0,none⟩) M M) N/\But (fun x=>x=L\/x=G) W wt) (fun i _=>2 * k+70-(intOf i).toNat)
   case atStart=>exact⟨k,ys,Nat.le_refl _,by omega,rfl,hB,hyl,htk,hL,hbt⟩
   case round=>
    clear hB htk hL hbt hyl ys
    obtain⟨j,ys,hj1,hj2,rfl,hB,hyl,htk,hL,hbt⟩:=hrel
    by_cases hjn:j<2 * k+70
    ·have hbuf:=hL.buf
     have hcell:=hB.cell j (by omega)
     have hfr:=hB.frozen j
     have hk2:(j:Int)<(M:Int):=by omega
     have HB:=hid (hB.set j (mk j))
     have HT:=hid (take_set (ys:=ys) (k:=j) (z:=mk j) (l:=lent zs) (by omega) (by rw[length_lent];omega) htk (lent_hi (by omega) (by omega)).symm)
     have HL:=hid (hL.setOther (p:=⟨G,j,none⟩) (by exact hGL) (.int .u8 (mk j)))
     have Hb:=hid (hbt.setCell (p:=⟨G,j,none⟩) (.inr rfl) (.int .u8 (mk j)))
     have Hyl:=hid hyl
     generalize ys.getD j 0=old at *
     clear hB htk hL hbt hyl hsrc
     go_wp2_with fail
     go_region_with (go_at_call 146;refine (mark_any _ j _ (by omega)).mono ?_;rintro e w1 ⟨rfl,rfl⟩)
     all_goals go_wp2
     all_goals
      go_roundw
      case rel=>exact⟨j+1,_,by omega,by omega,by go_num,HB.out.drew,by simpa using Hyl.out,HT.out,HL.out,Hb.out.drew⟩
      case measure=>simp[intOf];omega
    ·have e:j=2 * k+70:=by omega
     subst e
     have hbuf:=hL.buf
     have hnum:=hL.num
     have hfr:=hL.frozen 6
     have HB:=hid hB
     have HL:=hid (hL.setNum k)
     have Hb:=hid (hbt.setCell (p:=⟨L,6,none⟩) (.inl rfl) (.int .i64 (k:Int)))
     have HT:Hid (ys.take (2 * k+70)=lent zs):=by
      show _=_
      rw[htk,List.take_of_length_le (by rw[length_lent];omega)]
     have Hyl:=hid hyl
     clear hB hL hbt htk hyl hsrc
     go_wp2
     go_ret
     exact⟨G,M,ys,rfl,HB.out.setOther (Ne.symm hGL) _,Hyl.out,HT.out,HL.out,rfl,rfl,Hb.out⟩
theorem Lend_new {D:DV} (L:Nat) (a0:Option Addr) (m0 c0:Nat) (N:Int) (a:Option Addr) (n c:Nat) (zs:List Int) (w:World) (hn:n<=16777216) (hL0:Lnd D w L (.slice a0 m0 c0) N) (hM:m0<2 * n+70)
  (hR:RdN (fun x=>x=L) w a n zs) :
  Calls Tryz.prog 118 #[.pointer (some ⟨L,5,none⟩),.slice a n c] w fun e w'=>∃(G' M':Nat) (ys:List Int),e=.returned (.slice (some ⟨G',0,none⟩) n (2 * n+70))/\Blk .u8 5 w' G' ys/\ys.length=M'/\ys.take (2 * n+70)=lent zs/\Lnd D w' L (.slice (some ⟨G',0,none⟩) M' M') n/\G'=w.heap.size/\M'=4 * n+512/\But (fun x=>x=L) w w':=by
 have hmk:=make_u8 (4 * n+512) (by omega)
 have hcast:(((4 * n+512:Nat):Nat):Int)=4 * (n:Int)+512:=by omega
 rw[hcast]at hmk
 have hbuf0:=hL0.buf
 have hfr0:=hL0.frozen 5
 have hlt:((m0:Int)<2 * (n:Int)+70):=by omega
 have hLs:=hL0.lt
 have HL0:=hid ((hL0.setBuf (.slice (some ⟨w.heap.size,0,none⟩) (4 * n+512) (4 * n+512))).alloc (.cells ((zeros (4 * n+512)).map (Value.int .u8)).toArray 5))
 have HB0:Hid (Blk .u8 5 ((w.setCell ⟨L,5,none⟩ (.slice (some ⟨w.heap.size,0,none⟩) (4 * n+512) (4 * n+512))).alloc (.cells ((zeros (4 * n+512)).map (Value.int .u8)).toArray 5)) w.heap.size (zeros (4 * n+512))):=by
  have h:=Blk.new (k:=.u8) (e:=5) (w.setCell ⟨L,5,none⟩ (.slice (some ⟨w.heap.size,0,none⟩) (4 * n+512) (4 * n+512))) (zeros (4 * n+512))
  rw[show (w.setCell ⟨L,5,none⟩ (.slice (some ⟨w.heap.size,0,none⟩) (4 * n+512) (4 * n+512))).heap.size=w.heap.size from by simp[World.setCell]]at h
  exact h
 have Hb0:=hid (((But.refl (fun x=>x=L) w).setCell (p:=⟨L,5,none⟩) rfl (.slice (some ⟨w.heap.size,0,none⟩) (4 * n+512) (4 * n+512))).alloc (.cells ((zeros (4 * n+512)).map (Value.int .u8)).toArray 5))
 have hl0:=length_zeros (4 * n+512)
 have HG:=hid hLs
 clear hL0
 go_enter Tryz.func118,Tryz.ntmps118
 go_wp2
 have hR1:=hR.but Hb0.out
 have hL0:=HL0.out
 have hB0:=HB0.out
 have hGL:L≠w.heap.size:=by omega
 have hRY:RdN (fun x=>x=L\/x=w.heap.size) ((w.setCell ⟨L,5,none⟩ (.slice (some ⟨w.heap.size,0,none⟩) (4 * n+512) (4 * n+512))).alloc (.cells ((zeros (4 * n+512)).map (Value.int .u8)).toArray 5)) a n zs:=by
  obtain⟨q1,q2,q3⟩:=hR
  obtain⟨_,_,r3⟩:=hR1
  refine⟨q1,q2,?_⟩
  rcases q3 with q3 | ⟨b,off,rfl,hb,hx,_⟩
  ·exact .inl q3
  ·rcases r3 with r3 | ⟨b',off',e',hb',hx',hc'⟩
   ·exact .inl r3
   ·simp at e'
    obtain⟨rfl,rfl⟩:=e'
    exact .inr ⟨b,off,rfl,hb',by omega,hc'⟩
 clear HL0 HB0 hmk hbuf0 hfr0 hlt hcast hR hR1 HG
 have HW:=hid hLs
 generalize ((w.setCell ⟨L,5,none⟩ (.slice (some ⟨w.heap.size,0,none⟩) (4 * n+512) (4 * n+512))).alloc (.cells ((zeros (4 * n+512)).map (Value.int .u8)).toArray 5))=W at *
 generalize zeros (4 * n+512)=ys0 at *
 obtain⟨hzl,hzb,hsrc⟩:=hRY
 have hM:2 * n+70<=4 * n+512:=by omega
 have hM2:4 * n+512<=1073741824:=by omega
 generalize hGG:w.heap.size=G at *
 generalize hMM:4 * n+512=M at *
 have HGG:=hid hGG
 have HMM:=hid hMM
 clear hGG hMM
 go_loopw [5] (fun i wt=>∃(k:Nat) (ys:List Int),k<=n/\i=.int .i64 (k:Int)/\Blk .u8 5 wt G ys/\ys.length=M/\ys.take k=(lent zs).take k/\Lnd D wt L (.slice (some ⟨G,0,none⟩) M M) N/\But (fun x=>x=L\/x=G) W wt) (fun i _=>n-(intOf i).toNat)
 case atStart=>exact⟨0,ys0,Nat.zero_le _,rfl,hB0,hl0,rfl,hL0,But.refl _ _⟩
 case round=>
  obtain⟨k,ys,hk,rfl,hB,hyl,htk,hL,hbt⟩:=hrel
  by_cases hkn:k<n
  ·obtain⟨b,off,rfl,hb,hbx,hc⟩:=hsrc.resolve_left (by omega)
   have hcs:=(hbt.cell (p:=⟨b,off+k,none⟩) hb hbx).trans (hc k hkn)
   have hbuf:=hL.buf
   have hcell:=hB.cell k (by omega)
   have hfr:=hB.frozen k
   have hk1:(k:Int)<(n:Int):=by omega
   have hk2:(k:Int)<(M:Int):=by omega
   have HB:=hid (hB.set k (zs.getD k 0))
   have HT:=hid (take_set (ys:=ys) (k:=k) (z:=zs.getD k 0) (l:=lent zs) (by omega) (by rw[length_lent];omega) htk (lent_lo (by omega)).symm)
   have HL:=hid (hL.setOther (p:=⟨G,k,none⟩) (by exact hGL) (.int .u8 (zs.getD k 0)))
   have Hb:=hid (hbt.setCell (p:=⟨G,k,none⟩) (.inr rfl) (.int .u8 (zs.getD k 0)))
   have Hyl:=hid hyl
   generalize ys.getD k 0=old at *
   generalize zs.getD k 0=z at *
   clear hB htk hL hbt hc hyl hsrc
   go_wp2
   go_region
   all_goals go_wp2
   all_goals
    go_roundw
    case rel=>exact⟨k+1,_,by omega,by go_num,HB.out.drew,by simpa using Hyl.out,HT.out,HL.out,Hb.out.drew⟩
    case measure=>simp[intOf];omega
  ·have e:k=n:=by omega
   subst e
   clear hkn hk
   go_wp2
   go_loopw [6] (fun i wt=>∃(j:Nat) (ys:List Int),k<=j/\j<=2 * k+70/\i=.int .i64 (j:Int)/\Blk .u8 5 wt G ys/\ys.length=M/\ys.take j=(lent zs).take j/\Lnd D wt L (.slice (some ⟨G,0,none⟩) M M) N/\But (fun x=>x=L\/x=G) W wt) (fun i _=>2 * k+70-(intOf i).toNat)
   case atStart=>exact⟨k,ys,Nat.le_refl _,by omega,rfl,hB,hyl,htk,hL,hbt⟩
   case round=>
    clear hB htk hL hbt hyl ys
    obtain⟨j,ys,hj1,hj2,rfl,hB,hyl,htk,hL,hbt⟩:=hrel
    by_cases hjn:j<2 * k+70
    ·have hbuf:=hL.buf
     have hcell:=hB.cell j (by omega)
     have hfr:=hB.frozen j
     have hk2:(j:Int)<(M:Int):=by omega
     have HB:=hid (hB.set j (mk j))
     have HT:=hid (take_set (ys:=ys) (k:=j) (z:=mk j) (l:=lent zs) (by omega) (by rw[length_lent];omega) htk (lent_hi (by omega) (by omega)).symm)
     have HL:=hid (hL.setOther (p:=⟨G,j,none⟩) (by exact hGL) (.int .u8 (mk j)))
     have Hb:=hid (hbt.setCell (p:=⟨G,j,none⟩) (.inr rfl) (.int .u8 (mk j)))
     have Hyl:=hid hyl
     generalize ys.getD j 0=old at *
     clear hB htk hL hbt hyl hsrc
     go_wp2_with fail
     go_region_with (go_at_call 146;refine (mark_any _ j _ (by omega)).mono ?_;rintro e w1 ⟨rfl,rfl⟩)
     all_goals go_wp2
     all_goals
      go_roundw
      case rel=>exact⟨j+1,_,by omega,by omega,by go_num,HB.out.drew,by simpa using Hyl.out,HT.out,HL.out,Hb.out.drew⟩
      case measure=>simp[intOf];omega
    ·have e:j=2 * k+70:=by omega
     subst e
     have hbuf:=hL.buf
     have hnum:=hL.num
     have hfr:=hL.frozen 6
     have HB:=hid hB
     have HL:=hid (hL.setNum k)
     have Hb:=hid (hbt.setCell (p:=⟨L,6,none⟩) (.inl rfl) (.int .i64 (k:Int)))
     have HT:Hid (ys.take (2 * k+70)=lent zs):=by
      show _=_
      rw[htk,List.take_of_length_le (by rw[length_lent];omega)]
     have Hyl:=hid hyl
     clear hB hL hbt htk hyl hsrc
     go_wp2
     go_ret
     exact⟨G,M,ys,rfl,HB.out.setOther (Ne.symm hGL) _,Hyl.out,HT.out,HL.out,HGG.out.symm,HMM.out.symm,Hb0.out.comp Hb.out (fun x hx h=>h.elim id (fun h=>absurd h (by have:=HGG.out;omega)))⟩
open Go.RowKit
def XL (L:Nat) (bv:Value) (x:Nat):Prop:=x=L\/bv.ownBlock=some x
def LS (D:DV) (w:World) (L:Nat) (bv:Value):Prop :=
 (∃N,Lnd D w L bv N)/\(bv=.slice none 0 0\/∃G M ys,bv=.slice (some ⟨G,0,none⟩) M M/\L≠G/\Blk .u8 5 w G ys/\ys.length=M/\M<=67109376)
theorem LS.lt{D:DV}(h:LS D w L bv):L<w.heap.size:=by obtain⟨⟨N,h⟩,_⟩:=h;exact h.lt
theorem LS.but{D:DV}(h:LS D w L bv)(hb:But X w w')(hx:∀x,XL L bv x->¬X x):LS D w' L bv:=by
 obtain⟨⟨N,h1⟩,h2⟩:=h
 refine⟨⟨N,h1.but hb (hx L (.inl rfl))⟩,?_⟩
 rcases h2 with h2 | ⟨G,M,ys,rfl,h3,h4,h5,h6⟩
 ·exact .inl h2
 ·exact .inr ⟨G,M,ys,rfl,h3,h4.but hb (hx G (.inr rfl)),h5,h6⟩
structure Lent (D:DV) (w:World) (L G M n:Nat) (zs:List Int):Prop where
 num:Lnd D w L (.slice (some ⟨G,0,none⟩) M M) n
 ne:L≠G
 big:2 * n+70<=M
 small:M<=67109376
 buf:∃ys,Blk .u8 5 w G ys/\ys.length=M/\ys.take (2 * n+70)=lent zs
theorem Lend_any{D:DV}(L:Nat)(bv:Value)(a:Option Addr)(n c:Nat)(zs:List Int)(w:World)(hn:n<=16777216)(hS:LS D w L bv)(hR:RdN (XL L bv) w a n zs) :
  Calls Tryz.prog 118 #[.pointer (some ⟨L,5,none⟩),.slice a n c] w fun e w'=>∃G M,e=.returned (.slice (some ⟨G,0,none⟩) n (2 * n+70))/\Lent D w' L G M n zs/\(bv.ownBlock=some G\/w.heap.size<=G)/\But (XL L bv) w w':=by
 obtain⟨⟨N,h1⟩,h2⟩:=hS
 rcases h2 with rfl | ⟨G,M,ys,rfl,h3,h4,h5,h6⟩
 ·refine (Lend_new L none 0 0 N a n c zs w hn h1 (by omega) (hR.mono (fun x _ h=>.inl h))).mono ?_
  rintro e w' ⟨G,M,ys,he,hB,hl,ht,hL,hG,hM,hb⟩
  have:=h1.lt
  exact⟨G,M,he,⟨hL,by omega,by omega,by omega,ys,hB,hl,ht⟩,.inr (by omega),hb.mono (fun x _ h=>.inl h)⟩
 ·by_cases hM:M<2 * n+70
  ·refine (Lend_new L (some ⟨G,0,none⟩) M M N a n c zs w hn h1 hM (hR.mono (fun x _ h=>.inl h))).mono ?_
   rintro e w' ⟨G',M',ys',he,hB,hl,ht,hL,hG,hM',hb⟩
   have:=h1.lt
   exact⟨G',M',he,⟨hL,by omega,by omega,by omega,ys',hB,hl,ht⟩,.inr (by omega),hb.mono (fun x _ h=>.inl h)⟩
  ·have hx:∀x,(x=L\/x=G)->XL L (.slice (some ⟨G,0,none⟩) M M) x:=fun x h=>h.imp id (fun h=>by rw[h];rfl)
   refine (Lend_old L G M N a n c ys zs w hn h4 h5 h1 h3 (by omega) (by omega) (hR.mono (fun x _ h=>hx x h))).mono ?_
   rintro e w' ⟨G',M',ys',he,hB,hl,ht,hL,rfl,rfl,hb⟩
   exact⟨G',M',he,⟨hL,h3,by omega,h6,ys',hB,hl,ht⟩,.inl rfl,hb.mono (fun x _ h=>hx x h)⟩
theorem Lent.rd{D:DV}{G:Nat}(h:Lent D w L G M n zs)(hz:zs.length=n)(hb:Pl.isB zs):Rd w.heap.size w (some ⟨G,0,none⟩) n zs:=by
 obtain⟨ys,hB,hl,ht⟩:=h.buf
 have:=h.big
 refine⟨hz,hb,.inr ⟨G,0,rfl,hB.lt,fun t htn=>?_⟩⟩
 have hc:=hB.cell t (by omega)
 rw[Nat.zero_add,hc,<- lent_lo (zs:=zs) (by omega),<- ht,List.getD_eq_getElem?_getD,List.getD_eq_getElem?_getD,List.getElem?_take_of_lt (by omega)]
theorem Lent.but{D:DV}{G:Nat}(h:Lent D w L G M n zs)(hb:But X w w')(h1:¬X L)(h2:¬X G):Lent D w' L G M n zs:=by
 obtain⟨ys,hB,hl,ht⟩:=h.buf
 exact⟨h.num.but hb h1,h.ne,h.big,h.small,ys,hB.but hb h2,hl,ht⟩
theorem Back_any{D:DV}(L G M:Nat)(a:Option Addr)(n c:Nat)(zs:List Int)(w:World)(hn:n<=16777216)(hS:Lent D w L G M n zs)(hR:RdN (fun x=>x=L\/x=G) w a n zs) :
  Calls Tryz.prog 120 #[.pointer (some ⟨L,5,none⟩),.slice a n c] w fun e w'=>e=.returned (.bool true)/\LS D w' L (.slice (some ⟨G,0,none⟩) M M)/\But (fun x=>x=G) w w':=by
 obtain⟨ys,hB,hl,ht⟩:=hS.buf
 have hs:=hS.small
 refine (Back_ok L G M a n c ys zs w hn hB hl ht hS.num hS.ne hS.big (by omega) hR).mono ?_
 rintro e w' ⟨ys',he,hB',hl',hL',hb⟩
 exact⟨he,⟨⟨_,hL'⟩,.inr ⟨G,M,ys',rfl,hS.ne,hB',hl',hs⟩⟩,hb⟩
end Go.Proofs.YthfojpcibnfmgaaGreat
