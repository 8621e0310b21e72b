import Derived.Test.YthfojpcibnfmgaaGreatH01
import Derived.Laws.CopyRow
import Derived.Laws.Tables
import Derived.Deep.RegionHeld3
set_option maxRecDepth 100000
set_option maxHeartbeats 16000000
namespace Go.Proofs.YthfojpcibnfmgaaGreat
variable {w w':World}
variable {cL e gL k m mp n nb p t:Nat}
variable {img zs:List Int}
variable {xs:List Value}
variable {ds:List Pw}
variable {X:Nat->Prop}
variable {fu:Int}
variable {off:Bool}
variable {pv:Value}
variable {α β:Type}
open Go.RowKit
theorem Own.kind{g c:Nat}(h:Own w g n c zs):∃cur,w.heap[g]?=some (.cells cur 5 (0,0)):=by
 rcases h.2 with ⟨h1,_⟩ | ⟨_,_,cur,h1,_,h2,_⟩
 ·cases h1
 ·cases h1
  exact⟨cur,h2⟩
theorem row_kind{base size:Nat}{v:Value}(h:w.ownsRow base e size v n xs){g:Nat}(hg:v.ownBlock=some g):∃cur,w.heap[g]?=some (.cells cur e (0,0)):=by
 rcases h.2 with ⟨h1,_⟩ | ⟨_,_,cur,h1,_,h2,_⟩
 ·rw[h1]at hg;cases hg
 ·rw[h1]at hg;cases hg
  exact⟨cur,h2⟩
theorem MapL.kind(h:MapL w mp n ds):∃es ck,w.heap[mp]?=some (.map es ck):=by
 obtain⟨D,⟨es,ck,h1,_⟩,_⟩:=h
 exact⟨es,ck,h1⟩
theorem DkW.apart(h:DkW X w p img ds fu off gL cL pv mp nb):gL≠p/\(∀g,pv.ownBlock=some g->g≠p)/\mp≠p/\∀d∈ds,d.g≠p:=by
 have hp:w.heap[p]?=_:=h.blk
 refine⟨fun e=>?_,fun g hg e=>?_,fun e=>?_,fun d hd e=>?_⟩
 ·obtain⟨cur,hc⟩:=h.own.kind
  rw[e,hp]at hc
  cases hc
 ·obtain⟨cur,hc⟩:=row_kind h.row hg
  rw[e,hp]at hc
  cases hc
 ·obtain⟨es,ck,hc⟩:=h.map.kind
  rw[e,hp]at hc
  cases hc
 ·obtain⟨cur,hc⟩:=(h.dat d hd).1.kind
  rw[e,hp]at hc
  cases hc
theorem DkW.reblk{fu':Int}{off':Bool}(h:DkW X w p img ds fu off gL cL pv mp nb){v:Value}(hb:Dkb (w.setCell ⟨p,t,none⟩ v) p (.slice (some ⟨gL,0,none⟩) (512 * nb) cL) pv (.map (some mp)) fu' off')(hf:-1<=fu'/\fu'<=9223372036854775807) :
  DkW X (w.setCell ⟨p,t,none⟩ v) p img ds fu' off' gL cL pv mp nb:=by
 obtain⟨a1,a2,a3,a4⟩:=h.apart
 have k:∀g,g≠p->(w.setCell ⟨p,t,none⟩ v).heap[g]?=w.heap[g]?:=fun g hg=>Below.heap_setCell _ _ _ _ hg
 exact⟨hb,h.own.keep (k _ a1),h.isb,h.lo,h.hi,owns_keep h.row (fun g e=>k g (a2 g e)),fun d hd=>⟨(h.dat d hd).1.keep (k _ (a4 d hd)),(h.dat d hd).2⟩,h.map.keep (k _ a3),h.xp,h.xl,h.xm,h.xr,hf⟩
theorem DkW.setF(h:DkW X w p img ds fu off gL cL pv mp nb)(k:Int)(hk:-1<=k/\k<=9223372036854775807):DkW X (w.setCell ⟨p,3,none⟩ (.int .i64 k)) p img ds k off gL cL pv mp nb :=
 h.reblk (by unfold Dkb;simpa using h.blk.set 3 (.int .i64 k)) hk
theorem DkW.setO(h:DkW X w p img ds fu off gL cL pv mp nb)(b:Bool):DkW X (w.setCell ⟨p,4,none⟩ (.bool b)) p img ds fu b gL cL pv mp nb :=
 h.reblk (by unfold Dkb;simpa using h.blk.set 4 (.bool b)) h.fus
def burnC (fu:Int):Int:=if fu=0 then 24 else 0
def burnF (fu:Int):Int:=if fu=-1 then -1 else if fu=0 then 0 else fu-1
def burnO (fu:Int) (off:Bool):Bool:=if fu=0 then true else off
theorem goes_any(h:DkW X w p img ds fu off gL cL pv mp nb) :
  Calls Tryz.prog 122 #[.pointer (some ⟨p,0,none⟩)] w fun e w'=>e=.returned (.int .i64 (burnC fu))/\(DkW X w' p img ds (burnF fu) (burnO fu off) gL cL pv mp nb/\But (fun x=>x=p) w w'):=by
 have hf:=h.fus
 by_cases h1:fu=-1
 ·subst h1
  refine (goesThrough_none h.blk).mono ?_
  rintro e w' ⟨rfl,rfl⟩
  exact⟨rfl,h,But.refl _ _⟩
 ·by_cases h2:fu=0
  ·subst h2
   refine (goesThrough_zero h.blk).mono ?_
   rintro e w' ⟨rfl,rfl⟩
   exact⟨rfl,h.setO true,(But.refl (fun x=>x=p) w).setCell (p:=⟨p,4,none⟩) (show (fun x=>x=p) p from rfl) _⟩
  ·refine (goesThrough_some (by omega) hf.2 h.blk).mono ?_
   rintro e w' ⟨rfl,rfl⟩
   have e1:burnC fu=0:=if_neg h2
   have e2:burnF fu=fu-1:=by unfold burnF;rw[if_neg h1,if_neg h2]
   have e3:burnO fu off=off:=if_neg h2
   rw[e1,e2,e3]
   exact⟨rfl,h.setF (fu-1) (by omega),(But.refl (fun x=>x=p) w).setCell (p:=⟨p,3,none⟩) (show (fun x=>x=p) p from rfl) _⟩
theorem Fuse_any{puts:List (Nat×List Int)}(h:Dk X w p img puts fu off nb)(k:Int)(hk:k<=9223372036854775807) :
  Calls Tryz.prog 17 #[.pointer (some ⟨p,0,none⟩),.int .i64 k] w fun e w'=>e=.returned (.int .i64 (fuseR off k))/\Dk X w' p img puts (if fuseR off k=0 then k else fu) off nb/\But X w w':=by
 obtain⟨ds,gL,cL,pv,mp,rfl,h⟩:=h
 have HI:=hid (isFuse_any k w)
 obtain⟨w2,hw2⟩:∃w2,w2=(w.alloc (.cells #[.int .i64 k] 3)).alloc (.cells #[.func (.func 51) #[] #[],.func (.func 88) #[] #[.pointer (some ⟨w.heap.size,0,none⟩)]] 108):=⟨_,rfl⟩
 obtain⟨b2,hc,k0,k1⟩:=two_ready w _ _ _ hw2
 have HT:Calls Tryz.prog 88 (#[.pointer (some ⟨p,0,none⟩)]++#[.pointer (some ⟨w.heap.size,0,none⟩)]) w2 fun e w'=>e=.returned (.int .i64 (if k < -1 then 25 else 0))/\w'=w2:=isFuse1_any _ hc
 have HA:=hid (ask_two (f:=88) (cap:=#[.pointer (some ⟨w.heap.size,0,none⟩)]) (Q:=fun e w'=>e=.returned (.int .i64 (fuseR off k))/\w'=w2) (k:=w.heap.size+1) (.inr (.inl rfl)) (h.blk.of_block (b2.block p h.blk.lt)) HT k0 k1 (fun e=>⟨by rw[e];rfl,rfl⟩) (fun e w' hb=>⟨by rw[e];rfl,hb⟩))
 have h2:=h.keep (w':=w2) (fun x _ hx=>b2.block x hx)
 have H2:=hid h2
 have B2:=hid b2
 have f3:=h2.blk.frozen 3
 have q3:=h2.blk.cell 3
 simp only[List.getElem?_toArray,List.getElem?_cons_succ,List.getElem?_cons_zero]at q3
 clear k0 k1 hc b2 HT h h2
 go_enter Tryz.func17,Tryz.ntmps17
 go_wp2_with fail
 refine Calls.mono HI.out ?_
 rintro e w1 ⟨rfl,rfl⟩
 go_wp2_with fail
 rw[<- hw2]
 refine Calls.mono HA.out ?_
 rintro e w3 ⟨rfl,rfl⟩
 clear hw2 HA HI
 by_cases hz:fuseR off k=0
 ·have hk1:-1<=k:=by
   unfold fuseR at hz
   split at hz
   ·omega
   ·split at hz <;> omega
  simp only[hz]
  go_wp2
  go_ret
  exact⟨rfl,⟨ds,gL,cL,pv,mp,rfl,H2.out.setF k ⟨hk1,hk⟩⟩,(But.of_below B2.out).setCell (p:=⟨p,3,none⟩) H2.out.xp _⟩
 ·go_wp2
  go_ret
  exact⟨rfl,⟨ds,gL,cL,pv,mp,rfl,H2.out⟩,But.of_below B2.out⟩
open Go.RowKit
theorem take_splice(L cs:List α){o:Nat}(h:o+cs.length<=n)(hn:n<=L.length):(L.take o++cs++L.drop (o+cs.length)).take n=splice (L.take n) o cs:=by
 have hA:(L.take n).length=n:=by simp;omega
 have e1:L.take o=(L.take n).take o:=by rw[List.take_take,Nat.min_eq_left (by omega)]
 have e2:L.drop (o+cs.length)=(L.take n).drop (o+cs.length)++L.drop n:=by
  conv=>lhs;rw[<- List.take_append_drop n L]
  rw[List.drop_append_of_le_length (by omega)]
 rw[e1,e2]
 have e3:(L.take n).take o++cs++((L.take n).drop (o+cs.length)++L.drop n)=splice (L.take n) o cs++L.drop n:=by simp[splice]
 have hl:=length_splice (L.take n) o cs (by omega)
 rw[e3,List.take_append_of_le_length (by omega),List.take_of_length_le (by omega)]
theorem copy_own{ty:TypeId}{G cap o dLen dCap:Nat}{ad:Addr}{sCap:Nat}{cs:List Int}(h:Own w G n cap zs)(hl:cs.length=m)(hm:m<=dLen)(ho:o+m<=n)(hsrc:∀j v,(cs.map (Value.int .u8))[j]?=some v->w.cell? (ad.add j)=some v) :
  ∃w',(Builtin.copy_ #[40,40] ty #[.slice (some ⟨G,o,none⟩) dLen dCap,.slice (some ad) m sCap]).run Tryz.prog w=.ok (goInt m) w'/\Own w' G n cap (splice zs o cs)/\But (fun x=>x=G) w w':=by
 have hzl:=h.len
 rcases h with ⟨h0,h⟩
 rcases h with ⟨h1,_⟩ | ⟨g',cap',cur,h1,h2,h3,h4,h5,h6,h7⟩
 ·cases h1
 ·cases h1
  have hr:=run_copy_row (P:=Tryz.prog) w 40 40 ty 5 G o dLen dCap ad m sCap cur 5 (cs.map (Value.int .u8)) Tryz.underlying40 size5 h3 (by simp only[List.length_map,hl];exact (Nat.min_eq_left hm).symm) hsrc (by simp only[List.length_map];omega) (u8_one _)
  simp only[List.length_map,hl]at hr
  refine⟨_,hr,⟨?_,.inr ⟨G,cap,_,rfl,Nat.le_refl _,setRow_heap w G cur _ 5 (0,0) h3,h4,h5,?_,?_⟩⟩,⟨rfl,rfl,rfl,by simp[World.setRow],fun k _ hx=>setRow_other w G k _ (by intro e;exact hx e)⟩⟩
  ·rw[List.length_map,length_splice _ _ _ (by omega)]
   omega
  ·have:cur.toList.length=cap:=by simpa using h6
   simp
   omega
  ·have hc:cur.toList.length=cap:=by simpa using h6
   simp only[Nat.mul_one]at h7 ⊢
   have e:=take_splice cur.toList (cs.map (Value.int .u8)) (o:=o) (n:=n) (by simp;omega) (by omega)
   rw[List.length_map,hl,h7]at e
   rw[<- splice_map]
   simpa using e
theorem lay_any{G cap:Nat}(h:Own w G n cap zs)(x:Nat)(ad:Addr)(sc:Nat)(cs:List Int)(hR:Rd w.heap.size w (some ad) 512 cs)(hx:x * 512+512<=n)(hn:n<=268435456) :
  Calls Tryz.prog 91 #[.slice (some ⟨G,0,none⟩) n cap,.agg #[.int .i64 (x:Int),.slice (some ad) 512 sc]] w fun e w'=>e=.returned (.tuple #[])/\Own w' G n cap (splice zs (x * 512) cs)/\But (fun x=>x=G) w w':=by
 have hcap:=h.cap
 have hG:=h.lt
 obtain⟨wa,hwa⟩:∃wa,wa=w.alloc (.cells #[.int .i64 (x:Int),.slice (some ad) 512 sc] 152):=⟨_,rfl⟩
 have hb:Below w.heap.size w wa:=by rw[hwa];exact (Below.refl _ _).alloc (Nat.le_refl _) _
 have q0:wa.cell? ⟨w.heap.size,0,none⟩=some (.int .i64 (x:Int)):=by rw[hwa];exact cell_new rfl 0 _ rfl
 have q1:wa.cell? ⟨w.heap.size,1,none⟩=some (.slice (some ad) 512 sc):=by rw[hwa];exact cell_new rfl 1 _ rfl
 obtain⟨ad',e,hsrc⟩:=(hR.below hb).src (by omega)
 cases e
 obtain⟨w3,hrun,hO,hB⟩:=copy_own (ty:=3) (w:=wa.drew) (o:=x * 512) (dLen:=n-x * 512) (dCap:=cap-x * 512) (sCap:=sc) (h.keep (w':=wa.drew) (hb.block G hG)) hR.1 (by omega) (by omega) hsrc
 have HO:=hid hO
 have HB:=hid (But.of_below hb |>.comp (But.refl (fun _=>False) wa).drew (fun _ _ h=>h.elim) |>.comp hB (fun _ _ h=>h))
 clear hsrc hR hO hB hb
 go_enter Tryz.func91,Tryz.ntmps91
 go_wp2_with fail
 rw[<- hwa]
 clear hwa
 go_region
 go_end0
 exact⟨rfl,HO.out,HB.out⟩
open Go.RowKit
theorem fold_snoc(f:β->α->β)(b:β)(l:List α)(h:k<l.length):(l.take (k+1)).foldl f b=f ((l.take k).foldl f b) l[k]:=by
 rw[List.take_succ_eq_append_getElem h,List.foldl_append]
 rfl
open Go.RowKit
theorem DkW.reimg{img':List Int}(h:DkW X w p img ds fu off gL cL pv mp nb)(hO:Own w' gL (512 * nb) cL img')(hi:Pl.isB img')(hb:But (fun x=>x=gL) w w'):DkW X w' p img' ds fu off gL cL pv mp nb:=by
 obtain⟨a1,a2,a3,a4⟩:=h.apart
 obtain⟨cur,hcur⟩:=h.own.kind
 have k:∀g,g<w.heap.size->g≠gL->w'.heap[g]?=w.heap[g]?:=fun g h1 h2=>hb.block g h1 h2
 refine⟨h.blk.of_block (k p h.blk.lt (Ne.symm a1)),hO,hi,h.lo,h.hi,owns_keep h.row (fun g e=>k g (World.ownsRow.lt h.row g e).2 (fun e2=>?_)),fun d hd=>⟨(h.dat d hd).1.keep (k _ (h.dat d hd).1.lt (h.dat d hd).2.2.1),(h.dat d hd).2⟩,h.map.keep (k _ h.map.lt (fun e2=>?_)),h.xp,h.xl,h.xm,h.xr,h.fus⟩
 ·obtain⟨c2,hc2⟩:=row_kind h.row e
  rw[e2,hcur]at hc2
  cases hc2
 ·obtain⟨es,ck,hc2⟩:=h.map.kind
  rw[e2,hcur]at hc2
  cases hc2
def flushZ (img:List Int) (puts:List (Nat×List Int)):List Int:=puts.foldl (fun im q=>splice im (q.1 * 512) q.2) img
def flushC (off:Bool) (fu:Int):Int:=if off then 24 else burnC fu
def afterF (off:Bool) (fu:Int):Int:=if off then fu else burnF fu
def afterO (off:Bool) (fu:Int):Bool:=if off then true else burnO fu off
theorem mapL_new(w:World):MapL (w.alloc (.map #[] 0)) w.heap.size 0 []:=by
 refine⟨.map [],World.ownsMap_made w Tryz.prog 3 (plainElem Tryz.prog 3),fun x=>.inl ⟨rfl,fun d hd=>by cases hd⟩⟩
theorem Flush_any{puts:List (Nat×List Int)}(h:Dk X w p img puts fu off nb)(hl:puts.length<=1073741824) :
  Calls Tryz.prog 85 #[.pointer (some ⟨p,0,none⟩)] w fun e w'=>e=.returned (.int .i64 (flushC off fu))/\Dk (fun x=>X x\/w.heap.size<=x) w' p (if flushC off fu=0 then flushZ img puts else img) (if flushC off fu=0 then [] else puts) (afterF off fu) (afterO off fu) nb/\But X w w':=by
 obtain⟨ds,gL,cL,pv,mp,rfl,h⟩:=h
 obtain⟨aP,cP,rfl,_⟩:=owns_slice h.row
 have hhi:=h.hi
 simp only[List.length_map]at hl
 obtain⟨w2,hw2⟩:∃w2,w2=w.alloc (.cells #[.func (.func 51) #[] #[],.func (.func 122) #[] #[]] 108):=⟨_,rfl⟩
 have b2:Below w.heap.size w w2:=by rw[hw2];exact (Below.refl _ _).alloc (Nat.le_refl _) _
 have k0:w2.cell? ⟨w.heap.size,0,none⟩=some (.func (.func 51) #[] #[]):=by rw[hw2];exact cell_new rfl 0 _ rfl
 have k1:w2.cell? ⟨w.heap.size,1,none⟩=some (.func (.func 122) #[] #[]):=by rw[hw2];exact cell_new rfl 1 _ rfl
 have h2:=h.keep (w':=w2) (fun x _ hx=>b2.block x hx)
 have HT:Calls Tryz.prog 122 (#[.pointer (some ⟨p,0,none⟩)]++#[]) w2 fun e w'=>e=.returned (.int .i64 (burnC fu))/\(DkW X w' p img ds (burnF fu) (burnO fu off) gL cL (.slice aP ds.length cP) mp nb/\But (fun x=>x=p) w2 w'):=goes_any h2
 have HA:=hid (ask_two (f:=122) (cap:=#[]) (Q:=fun e w'=>e=.returned (.int .i64 (flushC off fu))/\DkW X w' p img ds (afterF off fu) (afterO off fu) gL cL (.slice aP ds.length cP) mp nb/\But X w w') (k:=w.heap.size) (.inr (.inr rfl)) h2.blk HT k0 k1
  (fun e=>⟨by rw[e];rfl,by have:=h2;subst e;exact this,But.of_below b2⟩) (fun e w' hb=>⟨by rw[e];rfl,by have:=hb.1;subst e;exact this,(But.of_below b2).comp hb.2 (fun x _ e=>e ▸ h.xp)⟩))
 have hmm:=@run_makeMap Tryz.prog
 clear k0 k1 b2 HT h h2
 go_enter Tryz.func85,Tryz.ntmps85
 go_wp2_with fail
 rw[<- hw2]
 refine Calls.mono HA.out ?_
 rintro e w3 ⟨rfl,h3,u3⟩
 have H3:=hid h3
 have U3:=hid u3
 clear hw2 HA u3
 by_cases hz:flushC off fu=0
 ·have Hz:=hid hz
  have q1:=h3.blk.cell 1
  simp only[List.getElem?_toArray,List.getElem?_cons_succ,List.getElem?_cons_zero]at q1
  simp only[hz]
  clear h3 hz
  go_wp2_with fail
  clear q1
  go_loopw [17] (fun i wt=>∃k:Nat,k<=ds.length/\i=.int .i64 (k:Int)/\DkW X wt p ((ds.take k).foldl (fun im d=>splice im (d.at_ * 512) d.data) img) ds (afterF off fu) (afterO off fu) gL cL (.slice aP ds.length cP) mp nb/\But X w wt) (fun i _=>ds.length-(intOf i).toNat)
  case atStart=>exact⟨0,Nat.zero_le _,rfl,H3.out,U3.out⟩
  case round=>
   clear H3 U3
   obtain⟨k,hk,rfl,hI,hu⟩:=hrel
   by_cases hkn:k<ds.length
   ·have hd:ds[k]?=some ds[k]:=List.getElem?_eq_getElem hkn
    obtain⟨gP,rfl,hgP,hpc⟩:=wide_cell hI.row (by omega)
    have r1:=hpc _ _ (pcs_get ds k _ hd).1
    have r2:=hpc _ _ (pcs_get ds k _ hd).2
    obtain⟨wa,hwa⟩:∃wa,wa=wr.alloc (.cells #[.int .i64 (ds[k].at_:Int),.slice (some ⟨ds[k].g,0,none⟩) 512 ds[k].c] 152):=⟨_,rfl⟩
    have ba:Below wr.heap.size wr wa:=by rw[hwa];exact (Below.refl _ _).alloc (Nat.le_refl _) _
    have hIa:=hI.keep (w':=wa.drew) (fun x _ hx=>ba.block x hx)
    have e0:wa.cell? ⟨wr.heap.size,0,none⟩=some (.int .i64 (ds[k].at_:Int)):=by rw[hwa];exact cell_new rfl 0 _ rfl
    have e1:wa.cell? ⟨wr.heap.size,1,none⟩=some (.slice (some ⟨ds[k].g,0,none⟩) 512 ds[k].c):=by rw[hwa];exact cell_new rfl 1 _ rfl
    have q0:wa.cell? ⟨p,0,none⟩=some (.slice (some ⟨gL,0,none⟩) (512 * nb) cL):=hIa.blk.cell 0
    have hdd:=hIa.dat ds[k] (List.getElem_mem hkn)
    have HL:=hid (lay_any hIa.own ds[k].at_ ⟨ds[k].g,0,none⟩ ds[k].c ds[k].data (hdd.1.rd hdd.2.1) (by have:=hdd.2.2.2.2;omega) (by omega))
    have Hpl:=hid (And.intro hIa.blk.lt (Ne.symm hIa.apart.1))
    have Hbl:=hid (show wr.heap.size<wa.heap.size/\wr.heap.size≠gL from ⟨by rw[hwa];simp,by have:=hI.own.lt;omega⟩)
    have hkn':(k:Int)<(ds.length:Int):=by omega
    have HS:=hid (And.intro hIa (And.intro hu (And.intro ba hdd.2.1)))
    clear hI hu hpc hIa hdd ba hd
    go_wp2_with fail
    rw[<- hwa]
    clear hwa
    go_region_held3 (fun w'=>w'.cell? ⟨p,0,none⟩=some (.slice (some ⟨gL,0,none⟩) (512 * nb) cL)/\w'.cell? ⟨wr.heap.size,0,none⟩=some (.int .i64 (ds[k].at_:Int))/\w'.cell? ⟨wr.heap.size,1,none⟩=some (.slice (some ⟨ds[k].g,0,none⟩) 512 ds[k].c)) (first | (exact⟨by assumption,by assumption,by assumption⟩) | go_keep)
     ((go_at_call 91;refine Calls.mono HL.out ?_;rintro e w6 ⟨rfl,hO6,hB6⟩;have j0:=(hB6.cell (p:=⟨p,0,none⟩) Hpl.out.1 Hpl.out.2).trans q0;have j1:=(hB6.cell (p:=⟨wr.heap.size,0,none⟩) Hbl.out.1 Hbl.out.2).trans e0;have j2:=(hB6.cell (p:=⟨wr.heap.size,1,none⟩) Hbl.out.1 Hbl.out.2).trans e1;have HO6:=hid hO6;have HB6:=hid hB6;clear hO6 hB6))
    clear HL q0 e0 e1 j0 j1 j2 r1 r2
    go_wp2_with fail
    go_roundw
    case rel=>
     obtain⟨hIa,hu,ba,hdb⟩:=HS.out
     have hst:(ds.take (k+1)).foldl (fun im d=>splice im (d.at_ * 512) d.data) img=splice ((ds.take k).foldl (fun im d=>splice im (d.at_ * 512) d.data) img) (ds[k].at_ * 512) ds[k].data:=fold_snoc _ _ _ hkn
     refine⟨k+1,by omega,by go_num,?_,?_⟩
     ·rw[hst]
      exact hIa.reimg HO6.out (isB_splice hIa.isb hdb _) HB6.out
     ·exact ((hu.trans (But.of_below ba)).comp (But.refl (fun _=>False) wa).drew (fun _ _ h=>h.elim)).comp HB6.out (fun x _ e=>e ▸ hIa.xl)
    case measure=>simp[intOf];omega
   ·obtain rfl:k=ds.length:=by omega
    have HI:=hid hI
    have Hu:=hid hu
    have q1:=hI.blk.cell 1
    have f1:=hI.blk.frozen 1
    have hb1:Dkb (wr.setCell ⟨p,1,none⟩ (.slice none 0 0)) p (.slice (some ⟨gL,0,none⟩) (512 * nb) cL) (.slice none 0 0) (.map (some mp)) (afterF off fu) (afterO off fu):=by unfold Dkb;simpa using hI.blk.set 1 (.slice none 0 0)
    have Hb1:=hid hb1
    obtain⟨wm,hwm⟩:∃wm,wm=(wr.setCell ⟨p,1,none⟩ (.slice none 0 0)).alloc (.map #[] 0):=⟨_,rfl⟩
    have hbm:Dkb wm p (.slice (some ⟨gL,0,none⟩) (512 * nb) cL) (.slice none 0 0) (.map (some mp)) (afterF off fu) (afterO off fu):=by
     rw[hwm]
     exact hb1.of_block (Below.heap_alloc _ _ _ hb1.lt)
    have Hbm:=hid hbm
    have q2:=hbm.cell 2
    have f2:=hbm.frozen 2
    simp only[List.getElem?_toArray,List.getElem?_cons_succ,List.getElem?_cons_zero]at q1 q2
    rw[hwm]at q2 f2
    clear hI hu hb1 hbm
    go_wp2
    go_ret
    have hz:=Hz.out
    have hsz:(wr.setCell ⟨p,1,none⟩ (.slice none 0 0)).heap.size=wr.heap.size:=by simp[World.setCell]
    rw[<- hwm]
    have hfl:(ds.take ds.length).foldl (fun im d=>splice im (d.at_ * 512) d.data) img=flushZ img (ds.map Pw.put):=by
     rw[List.take_length]
     unfold flushZ
     rw[List.foldl_map]
     rfl
    obtain⟨a1,_,_,_⟩:=HI.out.apart
    have km:∀g,g<wr.heap.size->g≠p->(wm.setCell ⟨p,2,none⟩ (.map (some wr.heap.size))).heap[g]?=wr.heap[g]?:=fun g h1 h2=>by
     rw[Below.heap_setCell _ _ _ _ h2,hwm,Below.heap_alloc _ _ _ (by omega),Below.heap_setCell _ _ _ _ h2]
    have hU:But X w (wm.setCell ⟨p,2,none⟩ (.map (some wr.heap.size))):=by
     rw[hwm]
     exact ((Hu.out.setCell (p:=⟨p,1,none⟩) HI.out.xp _).alloc _).setCell (p:=⟨p,2,none⟩) HI.out.xp _
    have hwr:w.heap.size<=wr.heap.size:=Hu.out.size
    have hne:wr.heap.size≠p:=fun e=>by have:=HI.out.blk.lt;omega
    refine⟨rfl,⟨[],gL,cL,.slice none 0 0,wr.heap.size,rfl,?_⟩,hU⟩
    refine⟨?_,?_,?_,HI.out.lo,HI.out.hi,⟨rfl,.inl ⟨rfl,rfl⟩⟩,(fun d hd=>by cases hd),?_,.inl HI.out.xp,.inl HI.out.xl,.inr hwr,(fun g e=>by cases e),HI.out.fus⟩
    ·unfold Dkb;simpa using Hbm.out.set 2 (.map (some wr.heap.size))
    ·have:=HI.out.own.keep (km gL HI.out.own.lt a1)
     rw[hfl]at this
     exact this
    ·have:=HI.out.isb
     rw[hfl]at this
     exact this
    ·have:=mapL_new (wr.setCell ⟨p,1,none⟩ (.slice none 0 0))
     rw[<- hwm,hsz]at this
     exact this.keep (Below.heap_setCell _ _ _ _ hne)
 ·clear h3
  go_wp2
  go_ret
  exact⟨rfl,Dk.mono (X:=X) ⟨ds,gL,cL,_,mp,rfl,H3.out⟩ (fun x h=>.inl h),U3.out⟩
end Go.Proofs.YthfojpcibnfmgaaGreat
