import Derived.Test.YthfojpcibnfmgaaGreatV39
import Derived.Test.YthfojpcibnfmgaaGreatV11
set_option maxRecDepth 100000
set_option maxHeartbeats 16000000
namespace Go.Proofs.YthfojpcibnfmgaaGreat
variable {B X X' Y Y':Nat->Prop}
variable {w w' w1 w2:World}
variable {K' L M k n tc:Nat}
variable {d':Pd}
variable {s':Js}
variable {r':Ra}
variable {zs:List Int}
variable {rv tv:Value}
variable {who:Option Bool}
variable {a ta:Option Addr}
open Go.RowKit Go.Deep
variable {Gm:Nat×Nat×Nat}
theorem Dq.both2{ob:Nat}{v:Dv}(h:Dq Y w ob v)(hb1:But Y w w1)(hg1:Gr Y Y' w)(hy1:∀k,Y' k->k<w1.heap.size){o':Option OT}(hp:StO Y' w1 v.j v.c v.p v.st v.nb K' v.fr v.bl d' s' o')(hpa:∀q,v.o=some q->(∃q',o'=some q'/\q'.t=q.t)\/(Txb w1 q.t v.j .nilIface v.st (.pointer none)/\¬Y' q.t))(hb2:But (Rset v.r) w1 w2)(rf:Rsd w2 v.nb v.fr v.bl r')(hrb:r'.rb=v.r.rb)(hg2:Rgr v.r r' w1)(hra:∀t,v.r.q=some t->(∃t',r'.q=some t'/\t'.g=t.g)\/∃pv mv,Rt5 w2 t.g v.r.rb pv mv true)(hlk:∀x∈v.xs,(∃q,o'=some q/\x.1=q.t) ↔ ∃t,r'.q=some t/\x.2=t.g):Dq Y' w2 ob { v with K:=K',d:=d',s:=s',o:=o',r:=r' }/\(∀k,Dset ob { v with K:=K',d:=d',s:=s',o:=o',r:=r' } k->Dset ob v k\/w.heap.size<=k)/\But (fun k=>Y k\/Dset ob v k) w w2:=by
 obtain⟨hR1,hN1⟩:=h.prog hb1 hg1
 obtain⟨hR2,hD2⟩:=hR1.ref hb2 rf hrb hg2 hra
 have hs1:=hb1.size
 have hs2:=hb2.size
 have hP1:DqP Y' w1 { v with K:=K',d:=d',s:=s',o:=o' }:=⟨hp,fun x hx=>?_,hy1⟩
 rotate_left
 ·rcases h.P.over hb1 hg1 x hx with ⟨q,hq,e⟩ | q
  ·rcases hpa q hq with ⟨q',q1,q2⟩ | ⟨q1,q2⟩
   ·exact .inl ⟨q',q1,e.trans q2.symm⟩
   ·exact .inr ⟨e ▸ q1,e ▸ q2⟩
  ·exact .inr q
 have hP2:=hP1.keep hb2 (fun k hl e1 e2=>hN1 k (.inl e1) e2) (fun k e _=>by
  obtain⟨cur,e9,hc,he,_⟩:=hR1.kinds (k:=k) (.inl e)
  exact⟨cur,e9,hc,he⟩)
 refine⟨⟨⟨hP2.pg,hP2.all,hP2.yb⟩,⟨hR2.ls,hR2.rf,hR2.ts,hR2.rs,hR2.all⟩,fun k hk e=>?_,hlk⟩,fun k hk=>?_,?_⟩
 ·rcases hD2 k hk with q | q
  ·exact hN1 k q e
  ·have:=hy1 k e
   omega
 ·rcases hD2 k hk with q | q
  ·exact .inl q
  ·exact .inr (by omega)
 ·exact (hb1.mono (fun k _ e=>.inl e)).comp hb2 (fun k _ e=>.inr (.inl e))
theorem Lent.ls{D:DV}{G:Nat}(h:Lent D w L G M n zs):LS D w L (.slice (some ⟨G,0,none⟩) M M):=by
 obtain⟨ys,h1,h2,_⟩:=h.buf
 exact⟨⟨_,h.num⟩,.inr ⟨G,M,ys,rfl,h.ne,h1,h2,h.small⟩⟩
theorem Dq.relend{ob:Nat}{v:Dv}(h:Dq Y w ob v){G Mb:Nat}(hb:But (XL ob v.bv) w w')(hl:LS (ptrV v.p,ptrV v.st,ptrV v.r.rb,v.tsv,v.rsv) w' ob (.slice (some ⟨G,0,none⟩) Mb Mb))(hG:v.bv.ownBlock=some G\/w.heap.size<=G):Dq Y w' ob { v with bv:=.slice (some ⟨G,0,none⟩) Mb Mb }/\∀k,Dset ob { v with bv:=.slice (some ⟨G,0,none⟩) Mb Mb } k->Dset ob v k\/w.heap.size<=k:=by
 have hD:∀k,Dset ob { v with bv:=.slice (some ⟨G,0,none⟩) Mb Mb } k->Dset ob v k\/w.heap.size<=k:=fun k hk=>by
  rcases hk with hk | hk | hk | hk | hk
  ·exact .inl (.inl hk)
  ·rcases hk with hk | hk
   ·exact .inl (.inr (.inl (.inl hk)))
   ·have:G=k:=by simpa [Value.ownBlock] using hk
    subst this
    exact hG.imp (fun e=>.inr (.inl (.inr e))) id
  ·exact .inl (.inr (.inr (.inl hk)))
  ·exact .inl (.inr (.inr (.inr (.inl hk))))
  ·exact .inl (.inr (.inr (.inr (.inr hk))))
 have hXk:∀k,XL ob v.bv k->∃cur e,w.heap[k]?=some (Obj.cells cur e (0,0))/\(e=58\/e=5):=fun k hk=>by
  obtain⟨⟨Nn,h1⟩,h2⟩:=h.R.ls
  rcases hk with rfl | hk
  ·exact⟨_,_,h1,.inl rfl⟩
  ·rcases h2 with h2 | ⟨G9,M9,ys,h3,_,h5,_⟩
   ·rw[h2]at hk
    cases hk
   ·rw[h3]at hk
    have:G9=k:=by simpa [Value.ownBlock] using hk
    subst this
    exact⟨_,_,h5,.inr rfl⟩
 have hne:∀(k:Nat) (cur:Array Value) (e:TypeId),w.heap[k]?=some (Obj.cells cur e (0,0))->e≠58->e≠5->¬XL ob v.bv k:=fun k cur e hc n1 n2 hk=>by
  obtain⟨cur2,e2,hc2,he⟩:=hXk k hk
  rw[hc]at hc2
  injection hc2 with hc2
  injection hc2 with _ hc2
  subst hc2
  exact he.elim n1 n2
 have hP:=h.P.keep hb (fun k _ e1 e2=>h.ny k (.inr (.inl e1)) e2) (fun k e _=>by
  obtain⟨cur,e9,hc,he⟩:=hXk k e
  exact⟨cur,e9,hc,by rcases he with rfl | rfl <;> decide⟩)
 refine⟨⟨⟨hP.pg,hP.all,hP.yb⟩,⟨hl,?_,?_,?_,fun x hx=>?_⟩,fun k hk e=>?_,h.lk⟩,hD⟩
 ·refine h.R.rf.but hb (fun k hk=>?_)
  obtain⟨cur,e,hc,he⟩:=h.R.rf.kinds hk
  exact hne k cur e hc (by rcases he with rfl | rfl | rfl | rfl | rfl | rfl <;> decide) (by rcases he with rfl | rfl | rfl | rfl | rfl | rfl <;> decide)
 ·refine owns_keep h.R.ts (fun k e=>?_)
  obtain⟨cur,hc⟩:=rowKind h.R.ts e
  exact hb.block k (Array.getElem?_eq_some_iff.1 hc).1 (hne _ _ _ hc (by decide) (by decide))
 ·refine owns_keep h.R.rs (fun k e=>?_)
  obtain⟨cur,hc⟩:=rowKind h.R.rs e
  exact hb.block k (Array.getElem?_eq_some_iff.1 hc).1 (hne _ _ _ hc (by decide) (by decide))
 ·exact (h.R.all x hx).imp id (fun⟨pv,mv,q⟩=>⟨pv,mv,q.keep (hb.block x.2 q.lt (hne _ _ _ q (by decide) (by decide)))⟩)
 ·rcases hD k hk with q | q
  ·exact h.ny k q e
  ·have:=h.P.yb k e
   omega
theorem Pkd.lend{ob:Nat}{v:Dv}(h:Pkd w v tv rv who)(hq:Dq Y w ob v){bv':Value}(h':Dq Y w' ob { v with bv:=bv' }):Pkd w' { v with bv:=bv' } tv rv who:=by
 obtain⟨h1,h2,h3⟩:=h
 rcases h3 with rfl | ⟨x,hx,rfl,rfl⟩
 ·exact⟨h1,h2,.inl rfl⟩
 ·have _:=hq
  cases who with
  | none=>exact⟨h1,h2,.inl rfl⟩
  | some b=>
   cases b with
   | true=>exact⟨h1,h2,.inr ⟨x,hx,rfl,rfl⟩⟩
   | false=>
    obtain⟨who2,p1,p2,p3⟩:=h'.pick (x:=x) hx
    cases who2 with
    | none=>cases p1
    | some b2=>
     cases b2 with
     | false=>exact⟨p1,p2,p3⟩
     | true=>
      exfalso
      obtain⟨q,e1,e2⟩:=p1
      obtain⟨t,e3,ht⟩:=h1
      have e4:x.1=q.t:=by
       unfold ptrV at e2
       injection e2 with e2
       injection e2 with e2
       injection e2
      have e5:t=q.t:=by
       unfold ptrV at e3
       injection e3 with e3
       injection e3 with e3
       injection e3 with e3
       omega
      have hp:=hq.P.pg
      have e1':v.o=some q:=e1
      rw[e1']at hp
      obtain⟨_,_,_,_,_,_,q3,_⟩:=hp
      rw[e5]at ht
      unfold Txb at ht q3
      rw[ht]at q3
      injection q3 with q3
      injection q3 with q3
      simp at q3
theorem RdN.anew(h:RdN X w a n zs)(hx:∀k,k<w.heap.size->X' k->X k):RdN X' w a n zs:=h.mono hx
def WrW (Gm:Nat×Nat×Nat) (B:Nat->Prop) (w:World) (ob M:Nat) (e:Ending) (w':World):Prop:=e=.returned (.bool true)/\DskS Gm B w w' ob M
theorem Dq.write77{ob:Nat}{v:Dv}(h:Dq Y w ob v)(hr:Rl Gm M v)(hB:∀k,B k ↔ Ball Y ob v k)(hM:M<=268435455)(hp:Pkd w v tv rv who)(y:Int)(hy1:-9223372036854775808<=y)(hy2:y<=9223372036854775807)(xa:Option Addr)(xn xc:Nat)(zs:List Int)(hxn:xn<=16777216)(hR:RdN B w xa xn zs) :
  Calls Tryz.prog 77 #[ptrV ob,tv,rv,.int .i64 y,.slice xa xn xc] w (WrW Gm B w ob (M+1)):=by
 obtain⟨PO,hPO⟩:∃PO:Ending->World->Prop,PO=WrW Gm B w ob (M+1):=⟨_,rfl⟩
 rw[<- hPO]
 have hpl:=hr.pl
 have hnb:=hr.nb
 have hkb:=hr.kb
 have hXB:∀k,XL ob v.bv k->B k:=fun k e=>(hB k).2 (.inr (.inl (.inr (.inl e))))
 have hYB:∀k,Y k->B k:=fun k e=>(hB k).2 (.inl e)
 have hDB:∀k,Dset ob v k->B k:=fun k e=>(hB k).2 (.inr (.inl e))
 have HL:Hid (Calls Tryz.prog 118 #[.pointer (some ⟨ob,5,none⟩),.slice xa xn xc] w fun e w1=>∃G,e=.returned (.slice (some ⟨G,0,none⟩) xn (2 * xn+70))/\Calls Tryz.prog 32 #[tv,.int .i64 y,.slice (some ⟨G,0,none⟩) xn (2 * xn+70)] w1 fun e w2=>∃code,e=.returned (.int .i64 code)/\Calls Tryz.prog 119 #[rv,.int .i64 y,.slice xa xn xc] w2 fun e w3=>e=.returned (.int .i64 code)/\Calls Tryz.prog 120 #[.pointer (some ⟨ob,5,none⟩),.slice xa xn xc] w3 fun e w4=>e=.returned (.bool true)/\PO (.returned (.bool true)) w4):=by
  refine Calls.mono (Lend_any ob v.bv xa xn xc zs w hxn h.R.ls (hR.anew (fun k _ e=>hXB k e))) ?_
  rintro e w1 ⟨G,Mb,rfl,l1,l2,l3⟩
  refine⟨G,rfl,?_⟩
  obtain⟨h1,hD1⟩:=h.relend l3 l1.ls l2
  have hp1:=hp.lend h h1
  have s1:=l3.size
  have hGY:¬Y G:=fun e=>by
   rcases l2 with q | q
   ·exact h.ny G (.inr (.inl (.inr q))) e
   ·have:=h.P.yb G e
    omega
  have hobY:¬Y ob:=h.ny ob (.inr (.inl (.inl rfl)))
  have hzl:=hR.1
  have hzb:=hR.2.1
  have hRG:RdN Y w1 (some ⟨G,0,none⟩) xn zs:=by
   obtain⟨ys,b1,b2,b3⟩:=l1.buf
   refine⟨hzl,hzb,.inr ⟨G,0,rfl,b1.lt,hGY,fun t ht=>?_⟩⟩
   obtain⟨r1,r2,r3⟩:=l1.rd hzl hzb
   rcases r3 with r3 | ⟨b,off,e1,e2,e3⟩
   ·omega
   ·have e4:G=b/\0=off:=by
     injection e1 with e1
     injection e1 with e1 e1'
     exact⟨e1,e1'⟩
    obtain⟨rfl,rfl⟩:=e4
    exact e3 t ht
  have hRX:RdN (fun k=>B k\/k=G) w xa xn zs:=by
   refine⟨hR.1,hR.2.1,hR.2.2.imp id ?_⟩
   rintro ⟨b,off,e1,e2,e3,e4⟩
   refine⟨b,off,e1,e2,fun e=>?_,e4⟩
   rcases e with e | rfl
   ·exact e3 e
   ·rcases l2 with q | q
    ·exact e3 (hXB _ (.inr q))
    ·omega
  have hR1:=hRX.but (l3.mono (fun k _ e=>Or.inl (hXB k e)))
  refine Calls.mono (h1.P.pg.write hr.fit (show v.d.puts.length<=1073741824 by omega) (show v.K<4611686018427387904 by omega) hnb (fun q hq=>?_) hp1.1 y hy1 hy2 (some ⟨G,0,none⟩) xn (2 * xn+70) zs hRG) ?_
  ·obtain⟨t,ht⟩:=hr.opn hq
   obtain⟨_,h2,_⟩:=hr.op q t hq ht
   omega
  rintro e w2 ⟨Y',o',rfl,q1,q2,q3,q4,q5,q6⟩
  refine⟨_,rfl,?_⟩
  have hR2:=hR1.but (q6.mono (fun k _ e=>Or.inl (hYB k e)))
  obtain⟨hRr2,hNr2⟩:=h1.prog q6 q5
  refine Calls.mono (hRr2.rf.write hnb hr.fit (hr.ps hM) (hp1.ref h1 q6) y xa xn xc zs (hR2.anew (fun k _ e=>Or.inl (hDB k (.inl e))))) ?_
  rintro e w3 ⟨rfl,r',s1,s2,s3,s4,s5⟩
  have hoff:v.r.off=v.d.off:=hr.off
  have hwc:wrC v.nb v.fr v.bl v.r.off who y xn=wrC v.nb v.fr v.bl v.d.off who y xn:=by rw[hoff]
  refine⟨congrArg (fun z=>Ending.returned (.int .i64 z)) hwc,?_⟩
  have hR3:=hR2.but (s2.mono (fun k _ e=>Or.inl (hDB k (.inl e))))
  have L2:=l1.but q6 hobY hGY
  have hnR:∀(k:Nat) (cur:Array Value) (e:TypeId),w2.heap[k]?=some (Obj.cells cur e (0,0))->(e=58\/e=5)->¬Rset v.r k:=fun k cur e hc he hk=>by
   obtain⟨cur2,e2,hc2,he2⟩:=hRr2.rf.kinds hk
   rw[hc]at hc2
   injection hc2 with hc2
   injection hc2 with _ hc2
   subst hc2
   rcases he with rfl | rfl <;> rcases he2 with he2 | he2 | he2 | he2 | he2 | he2 <;> exact absurd he2 (by decide)
  have hobR:¬Rset v.r ob:=hnR ob _ _ L2.num (.inl rfl)
  have hGR:¬Rset v.r G:=by
   obtain⟨ys,b1,_⟩:=L2.buf
   exact hnR G _ _ b1 (.inr rfl)
  have L3:=L2.but s2 hobR hGR
  refine Calls.mono (Back_any ob G Mb xa xn xc zs w3 hxn L3 (hR3.anew (fun k _ e=>e.elim (fun q=>Or.inl (q ▸ hXB ob (.inl rfl))) Or.inr))) ?_
  rintro e w4 ⟨rfl,b1,b2⟩
  refine⟨rfl,?_⟩
  rw[hPO]
  refine⟨rfl,?_⟩
  have s2s:=q6.size
  have s3s:=s2.size
  have s4s:=b2.size
  have FINI:∀(hrb:r'.rb=v.r.rb) (D3:Dq Y' w3 ob { v with bv:=.slice (some ⟨G,0,none⟩) Mb Mb,K:=v.K+1,o:=o',r:=r' }) (g3:∀k,Dset ob { v with bv:=.slice (some ⟨G,0,none⟩) Mb Mb,K:=v.K+1,o:=o',r:=r' } k->Dset ob { v with bv:=.slice (some ⟨G,0,none⟩) Mb Mb } k\/w1.heap.size<=k) (c3:But (fun k=>Y k\/Dset ob { v with bv:=.slice (some ⟨G,0,none⟩) Mb Mb } k) w1 w3) (rl:Rl Gm (M+1) { v with bv:=.slice (some ⟨G,0,none⟩) Mb Mb,K:=v.K+1,o:=o',r:=r' }),DskS Gm B w w4 ob (M+1):=fun hrb D3 g3 c3 rl=>by
   obtain⟨D4,g4⟩:=D3.relend (G:=G) (Mb:=Mb) (b2.mono (fun k _ e=>.inr (by rw[e];rfl))) (by
    show LS (ptrV v.p,ptrV v.st,ptrV r'.rb,v.tsv,v.rsv) w4 ob _
    rw[hrb]
    exact b1) (.inl rfl)
   refine h.close hB D4 ⟨rl.off,rl.on,rl.ct,rl.pl,rl.both,rl.op,rl.kb,rl.db,rl.xb,rl.lo,rl.fit,rl.nb,rl.gr,rl.fs⟩ (fun k hk e=>q5 k (by omega) e) (fun k hk=>?_) (fun x hx=>.inl hx) ?_
   ·rcases g4 k hk with q | q
    ·rcases g3 k q with q | q
     ·exact hD1 k q
     ·exact .inr (by omega)
    ·exact .inr (by omega)
   ·refine ((l3.mono (fun k _ e=>Or.inr (.inr (.inl e)))).comp c3 (fun k hk e=>?_)).comp b2 (fun k hk e=>?_)
    ·rcases e with e | e
     ·exact .inl e
     ·exact (hD1 k e).elim .inr (fun q=>by omega)
    ·rcases l2 with q | q
     ·exact .inr (.inr (.inl (.inr (e ▸ q))))
     ·omega
  by_cases hc:wrC v.nb v.fr v.bl v.d.off who y xn=0
  ·obtain⟨q,a',ss',val',hq,rfl,k1,k2,k3⟩:=q3 hc
   obtain⟨t,pv',ht,rfl⟩:=s5 (hwc.trans hc)
   have hq:v.o=some q:=hq
   have ht:v.r.q=some t:=ht
   obtain⟨hm,m2,m3,m4⟩:=hr.op q t hq ht
   have hwr:homeC v.nb v.fr v.bl y=0:=by
    unfold wrC at hc
    split at hc
    ·rename_i e;exact absurd hc e
    ·split at hc
     ·exact absurd hc (by decide)
     ·rename_i e;exact Classical.byContradiction fun q=>e q
   obtain⟨yn,rfl,hyn⟩:=home_nat hwr
   obtain⟨D3,g3,c3⟩:=h1.both2 q6 q5 q4 q1 (fun q9 e9=>.inl ⟨_,rfl,by have e9:v.o=some q9:=e9;rw[hq]at e9;cases e9;rfl⟩) s2 s1 rfl s3 (fun t9 e9=>.inl ⟨_,rfl,by have e9:v.r.q=some t9:=e9;rw[ht]at e9;cases e9;rfl⟩) (fun x hx=>by
    have:=h.lk x hx
    rw[hq,ht]at this
    simpa using this)
   refine FINI rfl D3 g3 c3 ?_
   have R5:=hr.setOp (v:=v) (K':=v.K+1) (q:={ q with n:=q.n+1,a:=a',ss:=ss',val:=val' }) (t:={ t with pv:=pv',ps:=t.ps++[((yn:Int),strOfNums zs)] }) (by omega) (hm.put hyn hwr zs (by simpa using k1) k2) (by simp only;omega) (by simp;omega) (by simp only;omega) (r':={ v.r with q:=some { t with pv:=pv',ps:=t.ps++[((yn:Int),strOfNums zs)] } }) rfl rfl rfl rfl rfl
   exact⟨R5.off,R5.on,R5.ct,R5.pl,R5.both,R5.op,R5.kb,R5.db,R5.xb,R5.lo,R5.fit,R5.nb,R5.gr,R5.fs⟩
  ·obtain rfl:=q2 hc
   obtain rfl:=s4 (fun e=>hc (hwc.symm.trans e))
   obtain⟨D3,g3,c3⟩:=h1.both2 q6 q5 q4 q1 (fun q9 e9=>.inl ⟨q9,e9,rfl⟩) s2 s1 rfl s3 (fun t9 e9=>.inl ⟨t9,e9,rfl⟩) h.lk
   refine FINI rfl D3 g3 c3 ?_
   have R5:=hr.up (K':=v.K+1) (by omega)
   exact⟨R5.off,R5.on,R5.ct,R5.pl,R5.both,R5.op,R5.kb,R5.db,R5.xb,R5.lo,R5.fit,R5.nb,R5.gr,R5.fs⟩
 have hzn:∀x (W:World),Calls Tryz.prog 39 #[.int .i64 x] W fun e w'=>e=.returned (.int .i64 x)/\w'=W:=fun x W=>num_any x W
 have HZ:=hid hzn
 clear h hr hB hM hp hR hPO hXB hYB hDB hzn hpl hnb hkb
 unfold ptrV
 go_enter Tryz.func77,Tryz.ntmps77
 go_wp2_with fail
 refine Calls.mono HL.out ?_
 rintro e w1 ⟨G,rfl,q⟩
 have H2:=hid q
 clear q HL
 go_wp2_with fail
 refine Calls.mono H2.out ?_
 rintro e w2 ⟨code,rfl,q⟩
 have H3:=hid q
 clear q H2
 go_wp2_with fail
 refine Calls.mono H3.out ?_
 rintro e w3 ⟨rfl,q⟩
 have H4:=hid q
 clear q H3
 go_wp2_with fail
 refine Calls.mono H4.out ?_
 rintro e w4 ⟨rfl,q⟩
 have FIN:=hid q
 clear q H4
 go_wp2_with fail
 refine Calls.mono (HZ.out _ _) ?_
 rintro e w5 ⟨rfl,hw5⟩
 rw[hw5]
 clear hw5
 go_wp2_with fail
 exact FIN.out
open Go.RowKit Go.Deep
variable {Gm:Nat×Nat×Nat}
theorem DqR.cells{ob:Nat}{v:Dv}(h:DqR w ob v):w.cell? ⟨ob,0,none⟩=some (ptrV v.p)/\w.cell? ⟨ob,1,none⟩=some (ptrV v.st)/\w.cell? ⟨ob,2,none⟩=some (ptrV v.r.rb)/\w.cell? ⟨ob,3,none⟩=some v.tsv/\w.cell? ⟨ob,4,none⟩=some v.rsv:=by
 obtain⟨⟨Nn,h1⟩,_⟩:=h.ls
 unfold Lnd at h1
 simp[World.cell?,h1]
theorem DqR.ob{ob:Nat}{v:Dv}(h:DqR w ob v):ob<w.heap.size:=h.ls.lt
theorem pick_none{ob:Nat}(h3:w.cell? ⟨ob,3,none⟩=some (.slice ta 0 tc))(i:Int):Calls Tryz.prog 43 #[.pointer (some ⟨ob,0,none⟩),.int .i64 i] w fun e w'=>e=.returned (.tuple #[.pointer none,.pointer none])/\Below w.heap.size w w':=by
 have B0:Hid (Below w.heap.size w w):=Below.refl _ _
 go_enter Tryz.func43,Tryz.ntmps43
 go_wp2
 go_ret2
 exact⟨rfl,B0.out⟩
theorem pick_some{ob tg rg rc x1 x2:Nat}(h3:w.cell? ⟨ob,3,none⟩=some (.slice (some ⟨tg,0,none⟩) n tc))(h4:w.cell? ⟨ob,4,none⟩=some (.slice (some ⟨rg,0,none⟩) n rc))(i:Int)(hk:k=into n i)(hn:0<n)(hn2:n<=1073741824)(ht:w.cell? ⟨tg,k,none⟩=some (.pointer (some ⟨x1,0,none⟩)))(hr:w.cell? ⟨rg,k,none⟩=some (.pointer (some ⟨x2,0,none⟩))):Calls Tryz.prog 43 #[.pointer (some ⟨ob,0,none⟩),.int .i64 i] w fun e w'=>e=.returned (.tuple #[.pointer (some ⟨x1,0,none⟩),.pointer (some ⟨x2,0,none⟩)])/\Below w.heap.size w w':=by
 have B0:Hid (Below w.heap.size w w.drew):=(Below.refl _ _).drew
 have hkn:k<n:=by rw[hk];exact into_lt i hn
 have e1:(bits .and .i64 i 4611686018427387903).tmod (n:Int)=(k:Int):=by rw[hk];exact into_eq n i
 have p1:=and62_pos i
 have hz:¬(n:Int)=0:=by omega
 have hzb:((n:Int) == 0)=false:=by simp;omega
 have hk':(k:Int)<(n:Int):=by omega
 have hk0:¬(k:Int)<0:=by omega
 clear hk hkn hn
 go_enter Tryz.func43,Tryz.ntmps43
 go_upto_region 4 with fail
 refine Gz (S:=fun w'=>w'.cell? ⟨ob,3,none⟩=some (.slice (some ⟨tg,0,none⟩) n tc)/\w'.cell? ⟨ob,4,none⟩=some (.slice (some ⟨rg,0,none⟩) n rc)/\w'.cell? ⟨tg,k,none⟩=some (.pointer (some ⟨x1,0,none⟩))/\w'.cell? ⟨rg,k,none⟩=some (.pointer (some ⟨x2,0,none⟩))) ⟨h3,h4,ht,hr⟩ (fun hSS=>?_)
 refine Ti 0 rfl ?_
 refine Ti 1 rfl ?_
 refine Ti 2 rfl ?_
 refine Ti 3 rfl ?_
 try simp only[Act.put,zA,zB,zC]
 refine Ti 4 rfl ?_
 refine Ti 5 rfl ?_
 refine Ti 6 rfl ?_
 refine Ti 7 rfl ?_
 try simp only[Act.put,zA,zB,zC]
 refine Ti 8 rfl ?_
 refine Ti 9 rfl ?_
 refine Ti 10 rfl ?_
 refine Ti 11 rfl ?_
 try simp only[Act.put,zA,zB,zC]
 refine Ti 12 rfl ?_
 refine Ti 13 rfl ?_
 refine Ti 14 rfl ?_
 refine Ti 15 rfl ?_
 try simp only[Act.put,zA,zB,zC]
 refine Dn ?_
 clear hSS
 go_wp2_with fail
 go_ret2
 exact⟨rfl,B0.out⟩
def pkX (v:Dv) (i:Int):Option (Nat×Nat):=if v.xs.length=0 then none else v.xs[into v.xs.length i]?
def pkT (v:Dv) (i:Int):Value:=match pkX v i with
 | none=>.pointer none
 | some x=>ptrV x.1
def pkR (v:Dv) (i:Int):Value:=match pkX v i with
 | none=>.pointer none
 | some x=>ptrV x.2
theorem Dq.pickF{ob:Nat}{v:Dv}(h:Dq Y w ob v)(hr:Rl Gm M v)(hB:∀k,B k ↔ Ball Y ob v k)(hM:M<=268435455)(i:Int):Calls Tryz.prog 43 #[.pointer (some ⟨ob,0,none⟩),.int .i64 i] w fun e w'=>∃who,e=.returned (.tuple #[pkT v i,pkR v i])/\Pkd w' v (pkT v i) (pkR v i) who/\Dq Y w' ob v/\Below w.heap.size w w':=by
 have hc:=h.R.cells
 have _:=hB
 have hlow:∀w',Below w.heap.size w w'->Dq Y w' ob v:=fun w' b=>⟨⟨h.P.pg.below b,fun x hx=>(h.P.all x hx).imp id (fun⟨t1,t2⟩=>⟨t1.keep (b.block x.1 t1.lt),t2⟩),fun k e=>Nat.lt_of_lt_of_le (h.P.yb k e) b.size⟩,h.R.keep (X:=fun _=>False) (But.of_below b) (fun _ _ q=>q),h.ny,h.lk⟩
 by_cases hn:v.xs.length=0
 ·obtain⟨ta,tc,e1,_⟩:=owns_slice h.R.ts
  have h3:=hc.2.2.2.1
  rw[e1,hn]at h3
  refine Calls.mono (pick_none h3 i) ?_
  rintro e w' ⟨rfl,b⟩
  have e0:pkX v i=none:=if_pos hn
  refine⟨none,by simp[pkT,pkR,e0],?_,hlow w' b,b⟩
  simp only[pkT,pkR,e0]
  exact⟨rfl,rfl,.inl rfl⟩
 ·obtain⟨tg,tc,e1,_⟩:=row_full h.R.ts (by omega)
  obtain⟨rg,rc,e2,_⟩:=row_full h.R.rs (by omega)
  have hkl:=into_lt i (show 0<v.xs.length by omega)
  obtain⟨x,hx⟩:∃x,v.xs[into v.xs.length i]?=some x:=⟨_,List.getElem?_eq_getElem hkl⟩
  have hts:=h.R.ts
  have hrs:=h.R.rs
  have h3:=hc.2.2.2.1
  have h4:=hc.2.2.2.2
  rw[e1]at hts h3
  rw[e2]at hrs h4
  have hxb:=hr.xb
  refine Calls.mono (pick_some h3 h4 i rfl (by omega) (by omega) ((World.ownsRow.cellAt hts _ (by omega)).trans (by rw[List.getElem?_map,hx];rfl)) ((World.ownsRow.cellAt hrs _ (by omega)).trans (by rw[List.getElem?_map,hx];rfl))) ?_
  rintro e w' ⟨rfl,b⟩
  have h':=hlow w' b
  obtain⟨who,hp⟩:=h'.pick (List.mem_of_getElem? hx)
  have e0:pkX v i=some x:=(if_neg hn).trans hx
  refine⟨who,by simp[pkT,pkR,e0,ptrV],?_,h',b⟩
  simp only[pkT,pkR,e0]
  exact hp
theorem Dq.pick43{ob:Nat}{v:Dv}(h:Dq Y w ob v)(hr:Rl Gm M v)(hB:∀k,B k ↔ Ball Y ob v k)(hM:M<=268435455)(i:Int):Calls Tryz.prog 43 #[.pointer (some ⟨ob,0,none⟩),.int .i64 i] w fun e w'=>∃tv rv who,e=.returned (.tuple #[tv,rv])/\Pkd w' v tv rv who/\Dq Y w' ob v/\Below w.heap.size w w':=Calls.mono (h.pickF hr hB hM i) (fun _ _ ⟨who,q⟩=>⟨_,_,who,q⟩)
theorem Rl.cutAny{v:Dv}(h:Rl Gm M v)(f:Int)(o:Bool):∃lo,∃home Ts,Cut ⟨v.d.img,v.d.puts,f,o⟩ v.nb v.fr v.bl lo home Ts/\Hc v.nb v.fr v.bl home Ts v.r.Fs v.r.Ds lo v.r.sure/\Ts.length<=M+1:=by
 cases ho:v.d.off with
 | true=>
  obtain⟨lo,home,Ts,q1,q2,q3⟩:=h.ct ho
  exact⟨lo,home,Ts,q1.set f o,q2,by omega⟩
 | false=>
  obtain⟨lo,home,Ts,q1,q2,q3⟩:=h.on ho
  exact⟨lo,home,Ts,(q1.cut h.lo h.fit h.nb).set f o,q2,by omega⟩
theorem Dq.off45{ob:Nat}{v:Dv}(h:Dq Y w ob v)(hr:Rl Gm M v)(hB:∀k,B k ↔ Ball Y ob v k)(hM:M<=268435455):Calls Tryz.prog 45 #[.pointer (some ⟨ob,0,none⟩)] w fun e w'=>e=.returned (.bool true)/\DskS Gm B w w' ob (M+1):=by
 obtain⟨PO,hPO⟩:∃PO:Ending->World->Prop,PO=fun e w'=>e=.returned (.bool true)/\DskS Gm B w w' ob (M+1):=⟨_,rfl⟩
 rw[<- hPO]
 have hpl:=hr.pl
 have hnb:=hr.nb
 have _:=hM
 have hc0:=h.R.cells.1
 have HL:Hid (Calls Tryz.prog 17 #[.pointer (some ⟨v.p,0,none⟩),.int .i64 0] w fun e w1=>∃x1,e=.returned (.int .i64 x1)/\w1.cell? ⟨ob,0,none⟩=some (.pointer (some ⟨v.p,0,none⟩))/\Calls Tryz.prog 85 #[.pointer (some ⟨v.p,0,none⟩)] w1 fun e w2=>∃x2,e=.returned (.int .i64 x2)/\w2.cell? ⟨ob,2,none⟩=some (.pointer (some ⟨v.r.rb,0,none⟩))/\(∃old,w2.cell? ⟨v.r.rb,7,none⟩=some (.bool old))/\w2.frozen? ⟨v.r.rb,7,none⟩=false/\∀w3,w3=w2.setCell ⟨v.r.rb,7,none⟩ (.bool true)->w3.cell? ⟨ob,0,none⟩=some (.pointer (some ⟨v.p,0,none⟩))/\Calls Tryz.prog 54 #[.pointer (some ⟨v.p,0,none⟩)] w3 fun e w4=>e=.returned (.bool false)/\PO (.returned (.bool true)) w4):=by
  refine Calls.mono h.P.pg.fuse0 ?_
  rintro e w1 ⟨x1,Y1,rfl,q1,q2,q3,q4⟩
  obtain⟨hR1,hN1⟩:=h.prog q4 q3
  refine⟨x1,rfl,hR1.cells.1,?_⟩
  refine Calls.mono (q1.dflush (show v.d.puts.length<=1073741824 by omega) (by
   cases ho:v.d.off
   ·exact .inr (by simp)
   ·exact .inl rfl)) ?_
  rintro e w2 ⟨x2,Y2,rfl,p1,p2,p3,p4⟩
  have s1:=q4.size
  have b12:But Y w w2:=q4.comp p4 (fun k hk e=>q3 k hk e)
  have g12:Gr Y Y2 w:=fun k hk e=>q3 k hk (p3 k (by omega) e)
  obtain⟨hR2,hN2⟩:=h.prog b12 g12
  have hs7:=hR2.rf.sto.cell 7
  simp at hs7
  refine⟨x2,rfl,hR2.cells.2.2.1,⟨_,hs7⟩,hR2.rf.sto.frozen 7,fun w3 hw3=>?_⟩
  have b3:But (fun k=>k=v.r.rb) w2 w3:=by rw[hw3];exact (But.refl (fun k=>k=v.r.rb) w2).setCell (p:=⟨v.r.rb,7,none⟩) rfl _
  have b3R:But (Rset v.r) w2 w3:=b3.mono (fun k _ e=>.inl e)
  have hkeep:∀(k:Nat) (cur:Array Value) (e:TypeId),w2.heap[k]?=some (Obj.cells cur e (0,0))->e≠67->w3.heap[k]?=w2.heap[k]?:=fun k cur e hc n2=>b3.block k (Array.getElem?_eq_some_iff.1 hc).1 (fun e2=>kind_ne hc hR2.rf.sto n2 e2)
  have rf3:Rsd w3 v.nb v.fr v.bl { v.r with off:=true }:=by
   refine⟨by rw[hw3];exact hR2.rf.sto.set7 true,?_,hR2.rf.fsl,?_,hR2.rf.rsl,fun i x ps h1 h2=>?_,fun q hq=>?_,hR2.rf.ap⟩
   ·refine owns_keep hR2.rf.fst (fun k e=>?_)
    obtain⟨cur,hcu⟩:=rowKind hR2.rf.fst e
    exact hkeep k cur _ hcu (by decide)
   ·refine rowD.keep hR2.rf.don (fun k e=>?_)
    obtain⟨cur,hcu⟩:=rowD.kind hR2.rf.don e
    exact hkeep k cur _ hcu (by decide)
   ·refine owns_keep (hR2.rf.din i x ps h1 h2) (fun k e=>?_)
    obtain⟨cur,hcu⟩:=rowKind (hR2.rf.din i x ps h1 h2) e
    exact hkeep _ cur _ hcu (by decide)
   ·have hT:=hR2.rf.tx q hq
    refine hT.keep (hkeep _ _ _ hT.blk (by decide)) (fun k e=>?_) (fun k e=>?_)
    ·obtain⟨cur,hcu⟩:=rowKind hT.pr e
     exact hkeep k cur _ hcu (by decide)
    ·obtain⟨cur,hcu⟩:=rowKind hT.mr e
     exact hkeep k cur _ hcu (by decide)
  obtain⟨D3,g3,c3⟩:=h.both2 b12 g12 p2 p1 (fun q9 e9=>.inl ⟨q9,e9,rfl⟩) b3R rf3 rfl (fun k hk=>.inl hk) (fun t9 e9=>.inl ⟨t9,e9,rfl⟩) h.lk
  refine⟨D3.R.cells.1,?_⟩
  refine Calls.mono D3.P.pg.don ?_
  rintro e w4 ⟨rfl,b4⟩
  refine⟨rfl,?_⟩
  rw[hPO]
  refine⟨rfl,?_⟩
  have D4:Dq Y2 w4 ob { v with K:=v.K,d:=⟨v.d.img,v.d.puts,if v.d.off then v.d.fu else 0,true⟩,s:=v.s,o:=v.o,r:={ v.r with off:=true } }:=⟨⟨D3.P.pg.below b4,fun x hx=>(D3.P.all x hx).imp id (fun⟨t1,t2⟩=>⟨t1.keep (b4.block x.1 t1.lt),t2⟩),fun k e=>Nat.lt_of_lt_of_le (D3.P.yb k e) b4.size⟩,D3.R.keep (X:=fun _=>False) (But.of_below b4) (fun _ _ q=>q),D3.ny,D3.lk⟩
  refine h.close hB D4 ?_ g12 g3 (fun x hx=>.inl hx) (c3.trans (But.of_below b4))
  refine⟨rfl,fun e=>by simp at e,fun _=>?_,hr.pl,hr.both,fun q t e1 e2=>?_,?_,?_,?_,hr.lo,hr.fit,hr.nb,hr.gr,hr.fs⟩
  ·exact hr.cutAny (if v.d.off then v.d.fu else 0) true
  ·obtain⟨m1,m2,m3,m4⟩:=hr.op q t e1 e2
   exact⟨m1,by omega,by omega,by omega⟩
  ·have:=hr.kb
   simp only
   omega
  ·exact⟨Nat.le_trans hr.db.1 (Nat.le_succ M),fun ps hps=>Nat.le_trans (hr.db.2 ps hps) (Nat.le_succ M)⟩
  ·have:=hr.xb
   simp only
   omega
 unfold ptrV at hc0
 obtain⟨pp,hpp⟩:∃pp,pp=v.p:=⟨_,rfl⟩
 obtain⟨rr,hrr⟩:∃rr,rr=v.r.rb:=⟨_,rfl⟩
 rw[<- hpp,<- hrr]at HL
 rw[<- hpp]at hc0
 clear h hr hB hPO hpl hnb hpp hrr
 go_enter Tryz.func45,Tryz.ntmps45
 go_wp2_with fail
 refine Calls.mono HL.out ?_
 rintro e w1 ⟨x1,rfl,d0,q⟩
 have H2:=hid q
 clear q HL hc0
 go_wp2_with fail
 refine Calls.mono H2.out ?_
 rintro e w2 ⟨x2,rfl,d2,⟨old,d7⟩,f7,q⟩
 obtain⟨w3,hw3⟩:∃w3,w3=w2.setCell ⟨rr,7,none⟩ (.bool true):=⟨_,rfl⟩
 obtain⟨k0,hk⟩:=q w3 hw3
 rw[hw3]at k0 hk
 have H3:=hid hk
 clear q H2 d0 hw3 hk
 go_wp2_with fail
 refine Calls.mono H3.out ?_
 rintro e w4 ⟨rfl,q⟩
 have FIN:=hid q
 clear q H3
 go_wp2_with fail
 exact FIN.out
end Go.Proofs.YthfojpcibnfmgaaGreat
