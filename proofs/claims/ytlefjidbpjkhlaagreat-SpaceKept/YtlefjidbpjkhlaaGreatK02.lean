import Derived.Test.YtlefjidbpjkhlaaGreatK01
import Derived.Deep.RegionHeld3
import Derived.Laws.BitsLemmas
set_option maxRecDepth 100000
set_option maxHeartbeats 16000000
namespace Go.Proofs.YtlefjidbpjkhlaaGreat
variable {X:Nat->Prop}
variable {w w' w2:World}
variable {c cL gL k m mp n p:Nat}
variable {img zs:List Int}
variable {ds:List Pw}
variable {fu:Int}
variable {off:Bool}
variable {pv:Value}
open Go.RowKit
theorem DkW.reimg{img':List Int}{nb:Nat}(h:DkW X w p img ds fu off gL cL pv mp nb)(hO:Own w' gL (512 * nb) cL img')(hi:Pl.isB img')(hb:But (fun x=>x=gL) w w'):DkW X w' p img' ds fu off gL cL pv mp nb:=by
 obtain⟨a1,a2,a3,a4⟩:=h.apart
 obtain⟨cur,hcur⟩:=h.own.kind
 have k:∀g,g<w.heap.size->g≠gL->w'.heap[g]?=w.heap[g]?:=fun g h1 h2=>hb.block g h1 h2
 refine⟨h.blk.of_block (k p h.blk.lt (Ne.symm a1)),hO,hi,h.lo,h.hi,owns_keep h.row (fun g e=>k g (World.ownsRow.lt h.row g e).2 (fun e2=>?_)),fun d hd=>⟨(h.dat d hd).1.keep (k _ (h.dat d hd).1.lt (h.dat d hd).2.2.1),(h.dat d hd).2⟩,h.map.keep (k _ h.map.lt (fun e2=>?_)),h.xp,h.xl,h.xm,h.xr,h.fus⟩
 ·obtain⟨c2,hc2⟩:=row_kind h.row e
  rw[e2,hcur]at hc2
  cases hc2
 ·obtain⟨es,ck,hc2⟩:=h.map.kind
  rw[e2,hcur]at hc2
  cases hc2
def flushZ (img:List Int) (puts:List (Nat×List Int)):List Int:=puts.foldl (fun im q=>splice im (q.1 * 512) q.2) img
def flushC (off:Bool) (fu:Int):Int:=if off then 24 else burnC fu
def afterF (off:Bool) (fu:Int):Int:=if off then fu else burnF fu
def afterO (off:Bool) (fu:Int):Bool:=if off then true else burnO fu off
theorem mapL_new(w:World):MapL (w.alloc (.map #[] 0)) w.heap.size 0 []:=by
 refine⟨.map [],World.ownsMap_made w Tryz.prog 3 (plainElem Tryz.prog 3),fun x=>.inl ⟨rfl,fun d hd=>by cases hd⟩⟩
theorem Flush_any{puts:List (Nat×List Int)}{nb:Nat}(h:Dk X w p img puts fu off nb)(hl:puts.length<=1073741824) :
  Calls Tryz.prog 116 #[.pointer (some ⟨p,0,none⟩)] w fun e w'=>e=.returned (.int .i64 (flushC off fu))/\Dk (fun x=>X x\/w.heap.size<=x) w' p (if flushC off fu=0 then flushZ img puts else img) (if flushC off fu=0 then [] else puts) (afterF off fu) (afterO off fu) nb/\But X w w':=by
 obtain⟨ds,gL,cL,pv,mp,rfl,h⟩:=h
 obtain⟨aP,cP,rfl,_⟩:=owns_slice h.row
 have hhi:=h.hi
 simp only[List.length_map]at hl
 obtain⟨w2,hw2⟩:∃w2,w2=w.alloc (.cells #[.func (.func 157) #[] #[],.func (.func 159) #[] #[]] 221):=⟨_,rfl⟩
 have b2:Below w.heap.size w w2:=by rw[hw2];exact (Below.refl _ _).alloc (Nat.le_refl _) _
 have k0:w2.cell? ⟨w.heap.size,0,none⟩=some (.func (.func 157) #[] #[]):=by rw[hw2];exact cell_new rfl 0 _ rfl
 have k1:w2.cell? ⟨w.heap.size,1,none⟩=some (.func (.func 159) #[] #[]):=by rw[hw2];exact cell_new rfl 1 _ rfl
 have h2:=h.keep (w':=w2) (fun x _ hx=>b2.block x hx)
 have HT:Calls Tryz.prog 159 (#[.pointer (some ⟨p,0,none⟩)]++#[]) w2 fun e w'=>e=.returned (.int .i64 (burnC fu))/\(DkW X w' p img ds (burnF fu) (burnO fu off) gL cL (.slice aP ds.length cP) mp nb/\But (fun x=>x=p) w2 w'):=goes_any h2
 have HA:=hid (ask_two (f:=159) (cap:=#[]) (Q:=fun e w'=>e=.returned (.int .i64 (flushC off fu))/\DkW X w' p img ds (afterF off fu) (afterO off fu) gL cL (.slice aP ds.length cP) mp nb/\But X w w') (k:=w.heap.size) (.inr (.inr rfl)) h2.blk HT k0 k1
  (fun e=>⟨by rw[e];rfl,by have:=h2;subst e;exact this,But.of_below b2⟩) (fun e w' hb=>⟨by rw[e];rfl,by have:=hb.1;subst e;exact this,(But.of_below b2).comp hb.2 (fun x _ e=>e ▸ h.xp)⟩))
 have hmm:=@run_makeMap Tryz.prog
 clear k0 k1 b2 HT h h2
 go_enter Tryz.func116,Tryz.ntmps116
 go_wp2_with fail
 rw[<- hw2]
 refine Calls.mono HA.out ?_
 rintro e w3 ⟨rfl,h3,u3⟩
 have H3:=hid h3
 have U3:=hid u3
 clear hw2 HA u3
 by_cases hz:flushC off fu=0
 ·have Hz:=hid hz
  have q1:=h3.blk.cell 1
  simp only[List.getElem?_toArray,List.getElem?_cons_succ,List.getElem?_cons_zero]at q1
  simp only[hz]
  clear h3 hz
  go_wp2_with fail
  clear q1
  go_loopw [17] (fun i wt=>∃k:Nat,k<=ds.length/\i=.int .i64 (k:Int)/\DkW X wt p ((ds.take k).foldl (fun im d=>splice im (d.at_ * 512) d.data) img) ds (afterF off fu) (afterO off fu) gL cL (.slice aP ds.length cP) mp nb/\But X w wt) (fun i _=>ds.length-(intOf i).toNat)
  case atStart=>exact⟨0,Nat.zero_le _,rfl,H3.out,U3.out⟩
  case round=>
   clear H3 U3
   obtain⟨k,hk,rfl,hI,hu⟩:=hrel
   by_cases hkn:k<ds.length
   ·have hd:ds[k]?=some ds[k]:=List.getElem?_eq_getElem hkn
    obtain⟨gP,rfl,hgP,hpc⟩:=wide_cell hI.row (by omega)
    have r1:=hpc _ _ (pcs_get ds k _ hd).1
    have r2:=hpc _ _ (pcs_get ds k _ hd).2
    obtain⟨wa,hwa⟩:∃wa,wa=wr.alloc (.cells #[.int .i64 (ds[k].at_:Int),.slice (some ⟨ds[k].g,0,none⟩) 512 ds[k].c] 226):=⟨_,rfl⟩
    have ba:Below wr.heap.size wr wa:=by rw[hwa];exact (Below.refl _ _).alloc (Nat.le_refl _) _
    have hIa:=hI.keep (w':=wa.drew) (fun x _ hx=>ba.block x hx)
    have e0:wa.cell? ⟨wr.heap.size,0,none⟩=some (.int .i64 (ds[k].at_:Int)):=by rw[hwa];exact cell_new rfl 0 _ rfl
    have e1:wa.cell? ⟨wr.heap.size,1,none⟩=some (.slice (some ⟨ds[k].g,0,none⟩) 512 ds[k].c):=by rw[hwa];exact cell_new rfl 1 _ rfl
    have q0:wa.cell? ⟨p,0,none⟩=some (.slice (some ⟨gL,0,none⟩) (512 * nb) cL):=hIa.blk.cell 0
    have hdd:=hIa.dat ds[k] (List.getElem_mem hkn)
    have HL:=hid (lay_any hIa.own ds[k].at_ ⟨ds[k].g,0,none⟩ ds[k].c ds[k].data (hdd.1.rd hdd.2.1) (by have:=hdd.2.2.2.2;omega) (by omega))
    have Hpl:=hid (And.intro hIa.blk.lt (Ne.symm hIa.apart.1))
    have Hbl:=hid (show wr.heap.size<wa.heap.size/\wr.heap.size≠gL from ⟨by rw[hwa];simp,by have:=hI.own.lt;omega⟩)
    have hkn':(k:Int)<(ds.length:Int):=by omega
    have HS:=hid (And.intro hIa (And.intro hu (And.intro ba hdd.2.1)))
    clear hI hu hpc hIa hdd ba hd
    go_wp2_with fail
    rw[<- hwa]
    clear hwa
    go_region_held3 (fun w'=>w'.cell? ⟨p,0,none⟩=some (.slice (some ⟨gL,0,none⟩) (512 * nb) cL)/\w'.cell? ⟨wr.heap.size,0,none⟩=some (.int .i64 (ds[k].at_:Int))/\w'.cell? ⟨wr.heap.size,1,none⟩=some (.slice (some ⟨ds[k].g,0,none⟩) 512 ds[k].c)) (first | (exact⟨by assumption,by assumption,by assumption⟩) | go_keep)
     ((go_at_call 160;refine Calls.mono HL.out ?_;rintro e w6 ⟨rfl,hO6,hB6⟩;have j0:=(hB6.cell (p:=⟨p,0,none⟩) Hpl.out.1 Hpl.out.2).trans q0;have j1:=(hB6.cell (p:=⟨wr.heap.size,0,none⟩) Hbl.out.1 Hbl.out.2).trans e0;have j2:=(hB6.cell (p:=⟨wr.heap.size,1,none⟩) Hbl.out.1 Hbl.out.2).trans e1;have HO6:=hid hO6;have HB6:=hid hB6;clear hO6 hB6))
    clear HL q0 e0 e1 j0 j1 j2 r1 r2
    go_wp2_with fail
    go_roundw
    case rel=>
     obtain⟨hIa,hu,ba,hdb⟩:=HS.out
     have hst:(ds.take (k+1)).foldl (fun im d=>splice im (d.at_ * 512) d.data) img=splice ((ds.take k).foldl (fun im d=>splice im (d.at_ * 512) d.data) img) (ds[k].at_ * 512) ds[k].data:=fold_snoc _ _ _ hkn
     refine⟨k+1,by omega,by go_num,?_,?_⟩
     ·rw[hst]
      exact hIa.reimg HO6.out (isB_splice hIa.isb hdb _) HB6.out
     ·exact ((hu.trans (But.of_below ba)).comp (But.refl (fun _=>False) wa).drew (fun _ _ h=>h.elim)).comp HB6.out (fun x _ e=>e ▸ hIa.xl)
    case measure=>simp[intOf];omega
   ·obtain rfl:k=ds.length:=by omega
    have HI:=hid hI
    have Hu:=hid hu
    have q1:=hI.blk.cell 1
    have f1:=hI.blk.frozen 1
    have hb1:Dkb (wr.setCell ⟨p,1,none⟩ (.slice none 0 0)) p (.slice (some ⟨gL,0,none⟩) (512 * nb) cL) (.slice none 0 0) (.map (some mp)) (afterF off fu) (afterO off fu):=by unfold Dkb;simpa using hI.blk.set 1 (.slice none 0 0)
    have Hb1:=hid hb1
    obtain⟨wm,hwm⟩:∃wm,wm=(wr.setCell ⟨p,1,none⟩ (.slice none 0 0)).alloc (.map #[] 0):=⟨_,rfl⟩
    have hbm:Dkb wm p (.slice (some ⟨gL,0,none⟩) (512 * nb) cL) (.slice none 0 0) (.map (some mp)) (afterF off fu) (afterO off fu):=by
     rw[hwm]
     exact hb1.of_block (Below.heap_alloc _ _ _ hb1.lt)
    have Hbm:=hid hbm
    have q2:=hbm.cell 2
    have f2:=hbm.frozen 2
    simp only[List.getElem?_toArray,List.getElem?_cons_succ,List.getElem?_cons_zero]at q1 q2
    rw[hwm]at q2 f2
    clear hI hu hb1 hbm
    go_wp2
    go_ret
    have hz:=Hz.out
    have hsz:(wr.setCell ⟨p,1,none⟩ (.slice none 0 0)).heap.size=wr.heap.size:=by simp[World.setCell]
    rw[<- hwm]
    have hfl:(ds.take ds.length).foldl (fun im d=>splice im (d.at_ * 512) d.data) img=flushZ img (ds.map Pw.put):=by
     rw[List.take_length]
     unfold flushZ
     rw[List.foldl_map]
     rfl
    obtain⟨a1,_,_,_⟩:=HI.out.apart
    have km:∀g,g<wr.heap.size->g≠p->(wm.setCell ⟨p,2,none⟩ (.map (some wr.heap.size))).heap[g]?=wr.heap[g]?:=fun g h1 h2=>by
     rw[Below.heap_setCell _ _ _ _ h2,hwm,Below.heap_alloc _ _ _ (by omega),Below.heap_setCell _ _ _ _ h2]
    have hU:But X w (wm.setCell ⟨p,2,none⟩ (.map (some wr.heap.size))):=by
     rw[hwm]
     exact ((Hu.out.setCell (p:=⟨p,1,none⟩) HI.out.xp _).alloc _).setCell (p:=⟨p,2,none⟩) HI.out.xp _
    have hwr:w.heap.size<=wr.heap.size:=Hu.out.size
    have hne:wr.heap.size≠p:=fun e=>by have:=HI.out.blk.lt;omega
    refine⟨rfl,⟨[],gL,cL,.slice none 0 0,wr.heap.size,rfl,?_⟩,hU⟩
    refine⟨?_,?_,?_,HI.out.lo,HI.out.hi,⟨rfl,.inl ⟨rfl,rfl⟩⟩,(fun d hd=>by cases hd),?_,.inl HI.out.xp,.inl HI.out.xl,.inr hwr,(fun g e=>by cases e),HI.out.fus⟩
    ·unfold Dkb;simpa using Hbm.out.set 2 (.map (some wr.heap.size))
    ·have:=HI.out.own.keep (km gL HI.out.own.lt a1)
     rw[hfl]at this
     exact this
    ·have:=HI.out.isb
     rw[hfl]at this
     exact this
    ·have:=mapL_new (wr.setCell ⟨p,1,none⟩ (.slice none 0 0))
     rw[<- hwm,hsz]at this
     exact this.keep (Below.heap_setCell _ _ _ _ hne)
 ·clear h3
  go_wp2
  go_ret
  exact⟨rfl,Dk.mono (X:=X) ⟨ds,gL,cL,_,mp,rfl,H3.out⟩ (fun x h=>.inl h),U3.out⟩
open Go.RowKit
theorem info96:(Tryz.prog.info? 226).map (fun i=>(i.zero,i.size,i.bytes))=some (some (.agg #[.int .i64 0,.slice none 0 0]),2,32):=by kernel_rfl
def MapP (D:DataW Unit) (ds:List Pw):Prop:=∀x:Int,(Maps.has D (.int .i64 x)=false/\∀d∈ds,(d.at_:Int)≠x) \/
  ∃(i:Nat) (d:Pw),Maps.has D (.int .i64 x)=true/\D.atKey (.int .i64 x) (.lit (.int .i64 0))=.lit (.int .i64 (i:Int))/\ds[i]?=some d/\(d.at_:Int)=x/\∀j d',i<j->ds[j]?=some d'->(d'.at_:Int)≠x
theorem MapP.push{D:DataW Unit}(h:MapP D ds)(hM:Maps.IsMap D)(d:Pw):MapP (D.put (.int .i64 (d.at_:Int)) (.lit (.int .i64 (ds.length:Int)))) (ds++[d]):=by
 intro x
 by_cases e:x=(d.at_:Int)
 ·subst e
  refine .inr ⟨ds.length,d,Maps.has_put_same hM (by simp[WideAt.IsKeyLit]) _,Maps.atKey_put_same hM (by simp[WideAt.IsKeyLit]) _ _,by simp,rfl,fun j d' hj hd=>?_⟩
  have:=(List.getElem?_eq_some_iff.1 hd).1
  simp at this
  omega
 ·have hne:(Lit.int .i64 x)≠(Lit.int .i64 (d.at_:Int)):=fun h=>by injection h with _ h;exact e h
  rcases h x with ⟨h1,h2⟩ | ⟨i,d',h1,h2,h3,h4,h5⟩
  ·refine .inl ⟨by rw[Maps.has_put_other hne];exact h1,fun d' hd=>?_⟩
   rcases List.mem_append.1 hd with hd | hd
   ·exact h2 d' hd
   ·simp at hd;subst hd;exact fun h=>e h.symm
  ·have hi:=(List.getElem?_eq_some_iff.1 h3).1
   refine .inr ⟨i,d',by rw[Maps.has_put_other hne];exact h1,by rw[Maps.atKey_put_other hne];exact h2,by rw[List.getElem?_append_left hi];exact h3,h4,fun j d2 hj hd=>?_⟩
   by_cases hjn:j<ds.length
   ·rw[List.getElem?_append_left hjn]at hd
    exact h5 j d2 hj hd
   ·have:=(List.getElem?_eq_some_iff.1 hd).1
    simp at this
    obtain rfl:j=ds.length:=by omega
    simp at hd
    subst hd
    exact fun h=>e h.symm
def writeC (off:Bool) (fu:Int) (nb:Nat) (x:Int) (n:Nat):Int:=if off then 24 else if x<0\/(nb:Int)<=x then 22 else if n≠512 then 23 else burnC fu
def writeF (off:Bool) (fu:Int) (nb:Nat) (x:Int) (n:Nat):Int:=if off=false/\¬(x<0\/(nb:Int)<=x)/\n=512 then burnF fu else fu
def writeO (off:Bool) (fu:Int) (nb:Nat) (x:Int) (n:Nat):Bool:=if off=false/\¬(x<0\/(nb:Int)<=x)/\n=512 then burnO fu off else off
theorem news2(w:World)(u v:Value)(t:TypeId):∀j y,[u,v][j]?=some y->(w.alloc (.cells #[u,v] t)).cell? ((⟨w.heap.size,0,none⟩:Addr).add j)=some y:=by
 intro j y h
 match j,h with
 | 0,h=>simp at h;subst h;simp[Addr.add]
 | 1,h=>simp at h;subst h;simp[Addr.add]
theorem DkW.apart2{nb:Nat}(h:DkW X w p img ds fu off gL cL pv mp nb):gL≠mp/\(∀g,pv.ownBlock=some g->gL≠g)/\(∀d∈ds,d.g≠mp)/\(∀d∈ds,∀g,pv.ownBlock=some g->d.g≠g)/\∀g,pv.ownBlock=some g->mp≠g:=by
 obtain⟨c5,h5⟩:=h.own.kind
 obtain⟨es,ck,hm⟩:=h.map.kind
 refine⟨fun e=>?_,fun g hg e=>?_,fun d hd e=>?_,fun d hd g hg e=>?_,fun g hg e=>?_⟩
 ·rw[e,hm]at h5;cases h5
 ·obtain⟨c2,h2⟩:=row_kind h.row hg
  rw[<- e,h5]at h2;cases h2
 ·obtain⟨c2,h2⟩:=(h.dat d hd).1.kind
  rw[e,hm]at h2;cases h2
 ·obtain⟨c2,h2⟩:=(h.dat d hd).1.kind
  obtain⟨c3,h3⟩:=row_kind h.row hg
  rw[e,h3]at h2;cases h2
 ·obtain⟨c2,h2⟩:=row_kind h.row hg
  rw[<- e,hm]at h2;cases h2
theorem four_ready(w:World)(x:Int)(ad:Option Addr)(n c:Nat)(e:w2=((w.alloc (.cells #[.int .i64 x] 3)).alloc (.cells #[.slice ad n c] 65)).alloc (.cells #[.func (.func 157) #[] #[],.func (.func 226) #[] #[.pointer (some ⟨w.heap.size,0,none⟩)],.func (.func 239) #[] #[.pointer (some ⟨w.heap.size+1,0,none⟩)],.func (.func 159) #[] #[]] 221)) :
  Below w.heap.size w w2/\w2.heap.size=w.heap.size+3/\w2.cell? ⟨w.heap.size,0,none⟩=some (.int .i64 x)/\w2.cell? ⟨w.heap.size+1,0,none⟩=some (.slice ad n c)/\w2.cell? ⟨w.heap.size+1+1,0,none⟩=some (.func (.func 157) #[] #[])/\w2.cell? ⟨w.heap.size+1+1,1,none⟩=some (.func (.func 226) #[] #[.pointer (some ⟨w.heap.size,0,none⟩)]) /\
   w2.cell? ⟨w.heap.size+1+1,2,none⟩=some (.func (.func 239) #[] #[.pointer (some ⟨w.heap.size+1,0,none⟩)])/\w2.cell? ⟨w.heap.size+1+1,3,none⟩=some (.func (.func 159) #[] #[]):=by
 subst e
 have z1:(w.alloc (.cells #[.int .i64 x] 3)).heap.size=w.heap.size+1:=by simp
 have z2:((w.alloc (.cells #[.int .i64 x] 3)).alloc (.cells #[.slice ad n c] 65)).heap.size=w.heap.size+1+1:=by simp
 refine⟨(((Below.refl _ _).alloc (Nat.le_refl _) _).alloc (by omega) _).alloc (by omega) _,by simp,?_,?_,cell_new z2 0 _ rfl,cell_new z2 1 _ rfl,cell_new z2 2 _ rfl,cell_new z2 3 _ rfl⟩
 ·rw[World.cell?_alloc_past _ _ _ (by omega),World.cell?_alloc_past _ _ _ (by omega)]
  exact cell_new rfl 0 _ rfl
 ·rw[World.cell?_alloc_past _ _ _ (by omega)]
  exact cell_new z1 0 _ rfl
theorem Write_any{puts:List (Nat×List Int)}{nb:Nat}(h:Dk X w p img puts fu off nb)(hl:puts.length<=1073741823)(x:Int)(ad:Option Addr)(n c:Nat)(zs:List Int)(hR:RdN X w ad n zs) :
  Calls Tryz.prog 217 #[.pointer (some ⟨p,0,none⟩),.int .i64 x,.slice ad n c] w fun e w'=>e=.returned (.int .i64 (writeC off fu nb x n))/\Dk (fun x=>X x\/w.heap.size<=x) w' p img (if writeC off fu nb x n=0 then puts++[(x.toNat,zs)] else puts) (writeF off fu nb x n) (writeO off fu nb x n) nb/\But X w w':=by
 obtain⟨ds,gL,cL,pv,mp,rfl,h⟩:=h
 obtain⟨aP,cP,rfl,_⟩:=owns_slice h.row
 have hhi:=h.hi
 simp only[List.length_map]at hl
 have HI:=hid (isThere_any x w)
 have HI2:=hid (isOneBlock_any ad n c (w.alloc (.cells #[.int .i64 x] 3)))
 obtain⟨w2,hw2⟩:∃w2,w2=((w.alloc (.cells #[.int .i64 x] 3)).alloc (.cells #[.slice ad n c] 65)).alloc (.cells #[.func (.func 157) #[] #[],.func (.func 226) #[] #[.pointer (some ⟨w.heap.size,0,none⟩)],.func (.func 239) #[] #[.pointer (some ⟨w.heap.size+1,0,none⟩)],.func (.func 159) #[] #[]] 221):=⟨_,rfl⟩
 obtain⟨b2,z2,hc,hd,k0,k1,k2,k3⟩:=four_ready w x ad n c hw2
 have h2:=h.keep (w':=w2) (fun x _ hx=>b2.block x hx)
 have HA:=hid (ask_four (Q:=fun e w'=>e=.returned (.int .i64 (writeC off fu nb x n))/\DkW X w' p img ds (writeF off fu nb x n) (writeO off fu nb x n) gL cL (.slice aP ds.length cP) mp nb/\But X w w')
  (R:=fun w'=>DkW X w' p img ds (burnF fu) (burnO fu off) gL cL (.slice aP ds.length cP) mp nb/\But (fun x=>x=p) w2 w') h.hi h2.blk hc hd (by omega:w.heap.size+1+1<w2.heap.size) (by omega)
  (fun w1 hb=>(goes_any (h2.keep (fun x _ hx=>hb.block x hx))).mono (fun e w' ⟨e1,e2,e3⟩=>⟨e1,e2,(But.of_below hb).comp e3 (fun _ _ h=>h)⟩)) k0 k1 k2 k3
  (fun e=>by
   refine⟨by unfold writeC;rw[e];rfl,?_,But.of_below b2⟩
   have e1:writeF off fu nb x n=fu:=if_neg (fun h=>by rw[e]at h;exact absurd h.1 (by decide))
   have e2:writeO off fu nb x n=off:=if_neg (fun h=>by rw[e]at h;exact absurd h.1 (by decide))
   rw[e1,e2];exact h2)
  (fun e hx w' hb=>by
   refine⟨by unfold writeC;rw[e,if_pos hx];rfl,?_,(But.of_below b2).trans (But.of_below hb)⟩
   have e1:writeF off fu nb x n=fu:=if_neg (fun h=>h.2.1 hx)
   have e2:writeO off fu nb x n=off:=if_neg (fun h=>h.2.1 hx)
   rw[e1,e2];exact h2.keep (fun x _ hx=>hb.block x hx))
  (fun e hx hn w' hb=>by
   refine⟨by unfold writeC;rw[e,if_neg hx,if_pos hn];rfl,?_,(But.of_below b2).trans (But.of_below hb)⟩
   have e1:writeF off fu nb x n=fu:=if_neg (fun h=>hn h.2.2)
   have e2:writeO off fu nb x n=off:=if_neg (fun h=>hn h.2.2)
   rw[e1,e2];exact h2.keep (fun x _ hx=>hb.block x hx))
  (fun e hx hn w' hr=>by
   refine⟨by unfold writeC;rw[e];simp only[Bool.false_eq_true,if_false,if_neg hx];rw[if_neg (fun h:n≠512=>h hn)],?_,(But.of_below b2).comp hr.2 (fun x _ e=>e ▸ h.xp)⟩
   have e1:writeF off fu nb x n=burnF fu:=if_pos ⟨e,hx,hn⟩
   have e2:writeO off fu nb x n=burnO fu off:=if_pos ⟨e,hx,hn⟩
   rw[e1,e2];exact hr.1))
 have HR:=hid hR
 clear k0 k1 k2 k3 hc hd h2 h b2
 go_enter Tryz.func217,Tryz.ntmps217
 go_wp2_with fail
 refine Calls.mono HI.out ?_
 rintro e w1 ⟨rfl,rfl⟩
 go_wp2_with fail
 refine Calls.mono HI2.out ?_
 rintro e w1 ⟨rfl,rfl⟩
 go_wp2_with fail
 rw[<- hw2]
 refine Calls.mono HA.out ?_
 rintro e w3 ⟨rfl,h3,u3⟩
 have H3:=hid h3
 have U3:=hid u3
 clear hw2 HA HI HI2 u3 z2
 by_cases hz:writeC off fu nb x n=0
 ·have hcase:¬(x<0\/(nb:Int)<=x)/\n=512:=by
   unfold writeC at hz
   split at hz
   ·omega
   ·split at hz
    ·omega
    ·split at hz
     ·omega
     ·rename_i h1 h2;exact⟨h1,by omega⟩
  obtain⟨hx,rfl⟩:=hcase
  obtain⟨y,rfl⟩:∃y:Nat,x=y:=⟨x.toNat,by omega⟩
  have hy:y<nb:=by omega
  obtain⟨b,o,rfl,_,_,_⟩:=HR.out.2.2.resolve_left (by omega)
  obtain⟨D,hown,hD⟩:=h3.map
  have hkey:keyOf Tryz.prog 3 (.int .i64 (y:Int))=some (.int .i64 (y:Int)):=Maps.keyOf_int_mk Tryz.underlying3 (WalkArith.wf_i64 (by omega))
  obtain⟨wU,hrun,hownU,hturn⟩:=World.ownsMap.store (w:=w3.drew) (t:=172) (e:=3) (val:=.int .i64 (ds.length:Int)) hown law3 Tryz.underlying172 (by unfold maxLen;omega) hkey (plainElem_int Tryz.underlying3 (WalkArith.wf_i64 (by omega)))
  have hgU:=hid hturn.grown
  have HoU:=hid hownU
  have HD:=hid (And.intro hD hown.isMap)
  have q1:=h3.blk.cell 1
  have q2:=h3.blk.cell 2
  simp only[List.getElem?_toArray,List.getElem?_cons_succ,List.getElem?_cons_zero]at q1 q2
  simp only[hz]
  have Hz:=hid hz
  clear hz hx hown hD hownU hturn hkey h3
  go_wp2_with fail
  go_region
  have U4:=hid ((U3.out.drew).of_grown hgU.out (fun x e _=>by cases e;exact H3.out.xm))
  have kU:Hid (∀g,g<w3.heap.size->g≠mp->wU.heap[g]?=w3.heap[g]?):=fun g h1 h2=>hgU.out.block g h1 (fun e=>h2 (by cases e;rfl))
  have hpm:p≠mp:=Ne.symm H3.out.apart.2.2.1
  have hbU:=hid (H3.out.blk.of_block (kU.out p H3.out.blk.lt hpm))
  have hrow:=H3.out.row
  have hrm:∀g,(Value.slice aP ds.length cP).ownBlock=some g->g≠mp:=fun g e e2=>by
   obtain⟨c2,hc2⟩:=row_kind hrow e
   obtain⟨es,ck,hm⟩:=H3.out.map.kind
   rw[e2,hm]at hc2
   cases hc2
  have HrU:=hid (owns_keep (w':=wU) hrow (fun g e=>kU.out g (World.ownsRow.lt hrow g e).2 (hrm g e)))
  have Hrm:=hid hrm
  have HRU:=hid (HR.out.but U4.out)
  have HCl:=hid (Clone_any ⟨b,o,none⟩ 512 c zs wU.drew (by omega) HRU.out.rd)
  have q1:=hbU.out.cell 1
  simp only[List.getElem?_toArray,List.getElem?_cons_succ,List.getElem?_cons_zero]at q1
  have hpU:=hbU.out.lt
  obtain⟨i96,hi96,hz96,hs96,hb96⟩:=info_parts info96
  clear hrun q2 hrow hrm
  go_wp2_with fail
  go_region_law (first
   | (go_simp;go_at_call 103;refine Calls.mono HCl.out ?_;rintro e w5 ⟨g6,cap6,rfl,hg6,hO6,hb6⟩;have HB6:Hid (Below wU.heap.size wU w5):=⟨hb6.os,hb6.tape,hb6.output,hb6.size,hb6.block⟩;have HO6:=hid hO6;have Hg6:Hid (wU.heap.size<=g6):=hg6;have k1:w5.cell? ⟨p,1,none⟩=some (.slice aP ds.length cP):=(HB6.out.cell (p:=⟨p,1,none⟩) hpU).trans q1;have hp5:p<w5.heap.size:=Nat.lt_of_lt_of_le hpU HB6.out.size;have ka1:(w5.alloc (.cells #[.int .i64 (y:Int),.slice (some ⟨g6,0,none⟩) 512 cap6] 226)).cell? ⟨p,1,none⟩=some (.slice aP ds.length cP):=(World.cell?_alloc_past _ _ _ hp5).trans k1;have Hr5:=hid (owns_below (HrU.out) (HB6.out.trans ((Below.refl _ _).alloc HB6.out.size (.cells #[.int .i64 (y:Int),.slice (some ⟨g6,0,none⟩) 512 cap6] 226))));clear hb6 hO6 hg6;dsimp only)
   | (refine step_append_lies _ (by rfl) _ _ _ (by rfl) 0 226 i96 (.agg #[.int .i64 0,.slice none 0 0]) 2 32 Tryz.underlying171 hi96 hz96 hs96 hb96 rfl (by decide) _ ds.length (pcs ds) (by rfl) (by exact Hr5.out) ⟨w5.heap.size,0,none⟩ 1 1 [.int .i64 (y:Int),.slice (some ⟨g6,0,none⟩) 512 cap6] (by rfl) (by rfl) (by exact news2 w5 _ _ _) (by intro u hu;simp at hu;rcases hu with rfl | rfl <;> rfl) (by decide) (by unfold maxLen;omega) (by omega) (by omega) (w5.heap.size+1) (by simp) ?_;intro g4 cap4 w6 ho4 hg4 hlie4 _;have HO4:=hid ho4;have HG4:Hid ((w5.alloc (.cells #[.int .i64 (y:Int),.slice (some ⟨g6,0,none⟩) 512 cap6] 226)).grownBy w6 (Value.slice aP ds.length cP).ownBlock):=hg4;have L4:Hid ((Value.slice aP ds.length cP).ownBlock=some g4\/g4=w5.heap.size+1):=hlie4;have bb:=hbU.out.of_block (w':=w6) ((hg4.block p (by simp;omega) (fun e=>H3.out.apart.2.1 p e.symm rfl)).trans ((Below.heap_alloc _ _ _ hp5).trans (HB6.out.block p hpU)));have c1'':=bb.cell 1;have f1'':=bb.frozen 1;simp only[List.getElem?_toArray,List.getElem?_cons_succ,List.getElem?_cons_zero]at c1'';have Hbb:=hid bb;clear ho4 hg4 hlie4 bb))
  all_goals
   have FIN:Hid (Dk (fun x=>X x\/w.heap.size<=x) (w6.setCell ⟨p,1,none⟩ (.slice (some ⟨g4,0,none⟩) (ds.length+1) cap4)) p img (ds.map Pw.put++[(y,zs)]) (writeF off fu nb (y:Int) 512) (writeO off fu nb (y:Int) 512) nb/\But X w (w6.setCell ⟨p,1,none⟩ (.slice (some ⟨g4,0,none⟩) (ds.length+1) cap4))):=by
    show _/\_
    have h3:=H3.out
    obtain⟨a1,a2,a3,a4⟩:=h3.apart
    obtain⟨b1,b2,b3,b4,b5⟩:=h3.apart2
    have hw3:w3.heap.size<=wU.heap.size:=hgU.out.size
    have hw5:wU.heap.size<=w5.heap.size:=HB6.out.size
    have hww:w.heap.size<=w3.heap.size:=U3.out.size
    have hp3:=h3.blk.lt
    have k6:∀g,g<wU.heap.size->(∀r,(Value.slice aP ds.length cP).ownBlock=some r->g≠r)->g≠p->(w6.setCell ⟨p,1,none⟩ (.slice (some ⟨g4,0,none⟩) (ds.length+1) cap4)).heap[g]?=wU.heap[g]?:=fun g h1 h2 h4=>by
     rw[Below.heap_setCell _ _ _ _ h4,HG4.out.block g (by simp;omega) (fun e=>h2 g e.symm rfl),Below.heap_alloc _ _ _ (by omega),HB6.out.block g h1]
    have k7:∀g,g<w3.heap.size->g≠mp->(∀r,(Value.slice aP ds.length cP).ownBlock=some r->g≠r)->g≠p->(w6.setCell ⟨p,1,none⟩ (.slice (some ⟨g4,0,none⟩) (ds.length+1) cap4)).heap[g]?=w3.heap[g]?:=fun g h1 h2 h4 h5=>(k6 g (by omega) h4 h5).trans (kU.out g h1 h2)
    have hg4:g4≠p:=fun e=>by
     rcases L4.out with q | q
     ·exact a2 g4 q e
     ·omega
    refine⟨⟨ds++[⟨y,zs,g6,cap6⟩],gL,cL,.slice (some ⟨g4,0,none⟩) (ds.length+1) cap4,mp,by simp[Pw.put],?_⟩,((((U4.out.trans (But.of_below HB6.out)).alloc _).of_grown HG4.out (fun x e _=>h3.xr x e)).setCell (p:=⟨p,1,none⟩) h3.xp _)⟩
    refine⟨?_,h3.own.keep (k7 gL h3.own.lt b1 b2 a1),h3.isb,h3.lo,h3.hi,?_,?_,?_,.inl h3.xp,.inl h3.xl,.inl h3.xm,?_,h3.fus⟩
    ·unfold Dkb;simpa using Hbb.out.set 1 (.slice (some ⟨g4,0,none⟩) (ds.length+1) cap4)
    ·rw[pcs_snoc]
     have:=owns_setCell HO4.out (p:=⟨p,1,none⟩) (fun e=>by simp[Value.ownBlock]at e;exact hg4 e) (.slice (some ⟨g4,0,none⟩) (ds.length+1) cap4)
     simpa using this
    ·intro d hd
     rcases List.mem_append.1 hd with hd | hd
     ·obtain⟨d1,d2,d3,d4,d5⟩:=h3.dat d hd
      exact⟨d1.keep (k7 d.g d1.lt (b3 d hd) (b4 d hd) (a4 d hd)),d2,d3,.inl d4,d5⟩
     ·simp at hd
      subst hd
      refine⟨HO6.out.keep ?_,HR.out.2.1,fun e=>by have:=h3.own.lt;have:=Hg6.out;simp at e;omega,.inr (by have:=Hg6.out;show w.heap.size<=g6;omega),hy⟩
      have hg6:=Hg6.out
      have hlt6:=HO6.out.lt
      show (w6.setCell ⟨p,1,none⟩ (.slice (some ⟨g4,0,none⟩) (ds.length+1) cap4)).heap[g6]?=w5.heap[g6]?
      rw[Below.heap_setCell _ _ _ _ (show g6≠p by omega),HG4.out.block g6 (by simp;omega) (fun e=>by have:=(World.ownsRow.lt h3.row g6 e.symm).2;omega),Below.heap_alloc _ _ _ hlt6]
    ·have hM:MapL wU mp (ds.length+1) (ds++[⟨y,zs,g6,cap6⟩]):=⟨_,HoU.out,MapP.push HD.out.1 HD.out.2 ⟨y,zs,g6,cap6⟩⟩
     have:=hM.keep (k6 mp hM.lt b5 a3)
     simpa using this
    ·intro g e
     cases e
     rcases L4.out with q | q
     ·exact .inl (h3.xr g4 q)
     ·exact .inr (by show w.heap.size<=g4;omega)
   clear c1'' f1'' ka1 k1 q1 HCl
   go_wp2
   go_ret
   exact⟨rfl,FIN.out⟩
 ·clear h3
  go_wp2
  go_ret
  exact⟨rfl,Dk.mono (X:=X) ⟨ds,gL,cL,_,mp,rfl,H3.out⟩ (fun x h=>.inl h),U3.out⟩
open Go.RowKit
theorem Own.of_blk{g:Nat}(h:Blk .u8 5 w g zs)(hl:zs.length=n)(hn:n<=maxLen):Own w g n n zs :=
 ⟨by simp[hl],.inr ⟨g,n,_,rfl,Nat.le_refl _,h,Nat.le_refl _,hn,by simp[hl],by rw[Nat.mul_one,<- hl];simpa using List.take_length (l:=zs.map (Value.int .u8))⟩⟩
theorem diskOf_any{g nb:Nat}(h:Own w g (512 * nb) c img)(hb:Pl.isB img)(lo:1<=nb)(hi:nb<=524288) :
  Calls Tryz.prog 67 #[.slice (some ⟨g,0,none⟩) (512 * nb) c] w fun e w'=>∃p,e=.returned (.pointer (some ⟨p,0,none⟩))/\w.heap.size<=p/\Dk (fun x=>x=g\/w.heap.size<=x) w' p img [] (-1) false nb/\Below w.heap.size w w':=by
 have hmm:=@run_makeMap Tryz.prog
 obtain⟨wm,hwm⟩:∃wm,wm=w.alloc (.map #[] 0):=⟨_,rfl⟩
 have zm:wm.heap.size=w.heap.size+1:=by rw[hwm];simp
 have bm:Below w.heap.size w wm:=by rw[hwm];exact (Below.refl _ _).alloc (Nat.le_refl _) _
 have hM:MapL wm w.heap.size 0 []:=by rw[hwm];exact mapL_new w
 go_enter Tryz.func67,Tryz.ntmps67
 go_wp2
 go_ret
 rw[<- hwm]
 have bp:Below wm.heap.size wm (wm.alloc (.cells #[.slice (some ⟨g,0,none⟩) (512 * nb) c,.slice none 0 0,.map (some w.heap.size),.int .i64 (-1),.bool false] 174)):=(Below.refl _ _).alloc (Nat.le_refl _) _
 refine⟨w.heap.size+1,rfl,by omega,⟨[],g,c,.slice none 0 0,w.heap.size,rfl,?_⟩,bm.trans (bp.mono bm.size)⟩
 refine⟨?_,(h.keep (bm.block g h.lt)).keep (bp.block g (by have:=h.lt;omega)),hb,lo,hi,⟨rfl,.inl ⟨rfl,rfl⟩⟩,(fun d hd=>by cases hd),hM.keep (bp.block _ (by omega)),.inr (by omega),.inl rfl,.inr (Nat.le_refl _),(fun g e=>by cases e),by omega⟩
 rw[<- zm]
 show (wm.heap.push _)[wm.heap.size]?=_
 simp
open Go.RowKit
theorem Open_ok(ad:Addr)(nb c:Nat)(zs:List Int)(w:World)(lo:1<=nb)(hi:nb<=524288)(hR:Rd w.heap.size w (some ad) (512 * nb) zs):Calls Tryz.prog 61 #[.slice (some ad) (512 * nb) c] w fun e w'=>∃p,e=.returned (.tuple #[.pointer (some ⟨p,0,none⟩),.int .i64 0])/\w.heap.size<=p/\Dk (fun x=>w.heap.size<=x) w' p zs [] (-1) false nb/\Below w.heap.size w w':=by
 have HCl:=hid (Clone_any ad (512 * nb) c zs w (by omega) hR)
 have hzb:=hR.2.1
 have e0:((512 * nb:Nat):Int).tmod 512=0:=by rw[Int.tmod_eq_emod_of_nonneg (by omega)];omega
 have n0:¬((512 * nb:Nat):Int)=0:=by omega
 have n1:¬((268435456:Int)<((512 * nb:Nat):Int)):=by omega
 clear hR
 generalize hm:((512 * nb:Nat):Int)=m at *
 go_enter Tryz.func61,Tryz.ntmps61
 go_wp2_with fail
 refine Calls.mono HCl.out ?_
 rintro e w1 ⟨g,cap,rfl,hg,hO,hb⟩
 have HD:=hid (diskOf_any hO hzb lo hi)
 have Hb:=hid hb
 have Hg:=hid hg
 clear hO hb hg HCl
 go_wp2_with fail
 refine Calls.mono HD.out ?_
 rintro e w2 ⟨p,rfl,hp,hD,hb2⟩
 have HD2:=hid hD
 have Hb2:=hid hb2
 clear HD hD hb2
 go_wp2
 go_ret2
 have z1:=Hb.out.size
 have zg:=Hg.out
 exact⟨p,rfl,by omega,HD2.out.mono (fun x h=>h.elim (fun h=>by omega) (fun h=>by omega)),Hb.out.trans (Hb2.out.mono z1)⟩
open Go.RowKit
def blkV (x:Int) (k:Nat):Int:=wrap64 (wrap64 (x+wrap64 (x / 256 * 3))+wrap64 ((k:Int) * wrap64 (1+x.tmod 5))) % 256
def blkZ (x:Int):List Int:=(List.range 512).map (blkV x)
theorem length_blkZ(x:Int):(blkZ x).length=512:=by simp[blkZ]
theorem isB_blkZ(x:Int):Pl.isB (blkZ x):=by
 intro z hz
 simp only[blkZ,List.mem_map]at hz
 obtain⟨i,_,rfl⟩:=hz
 unfold blkV
 omega
theorem blkZ_getD{x:Int}(h:k<512):(blkZ x).getD k 0=blkV x k:=by simp[blkZ,h]
theorem Block_any(x:Int)(w:World):Calls Tryz.prog 32 #[.int .i64 x] w fun e w'=>∃g,e=.returned (.slice (some ⟨g,0,none⟩) 512 512)/\w.heap.size<=g/\Blk .u8 5 w' g (blkZ x)/\Below w.heap.size w w':=by
 have hmk:=make_u8 512 (by omega)
 have hB0:Hid (Blk .u8 5 (w.alloc (.cells ((zeros 512).map (Value.int .u8)).toArray 5)) w.heap.size (zeros 512)):=Blk.new w _
 have hb0:Hid (Below w.heap.size w (w.alloc (.cells ((zeros 512).map (Value.int .u8)).toArray 5))):=(Below.refl _ _).alloc (Nat.le_refl _) _
 have hmk':∀u:World,(Instr.makeSlice 65 (.int .i64 512) (.int .i64 512)).run Tryz.prog u=.ok (.slice (some ⟨u.heap.size,0,none⟩) 512 512) (u.alloc (.cells ((zeros 512).map (Value.int .u8)).toArray 5)):=hmk
 clear hmk
 go_enter Tryz.func32,Tryz.ntmps32
 go_wp2_with fail
 generalize hwm:w.alloc (.cells ((zeros 512).map (Value.int .u8)).toArray 5)=wm at *
 clear hwm hmk'
 go_loopw [4] (fun i wt=>∃k:Nat,∃ys,k<=512/\i=.int .i64 (k:Int)/\Blk .u8 5 wt w.heap.size ys/\ys.length=512/\ys.take k=(blkZ x).take k/\Below w.heap.size w wt) (fun i _=>512-(intOf i).toNat)
 case atStart=>exact⟨0,_,Nat.zero_le _,rfl,hB0.out,length_zeros _,rfl,hb0.out⟩
 case round=>
  clear hB0 hb0
  obtain⟨k,ys,hk,rfl,hB,hl,hbs,hbt⟩:=hrel
  by_cases hkn:k<512
  ·have hkn':(k:Int)<512:=by omega
   have cB:=hB.cell k (by omega)
   have fB:=hB.frozen k
   have HB:=hid hB
   have Hb:=hid hbt
   have Hl:=hid (And.intro hl (take_set (by omega) (by rw[length_blkZ];omega) hbs (blkZ_getD (x:=x) hkn).symm))
   clear hB hbt hl hbs
   go_wp2_with fail
   obtain⟨V,hV⟩:∃V:Int,V=wrap64 (wrap64 (x+wrap64 (x / 256 * 3))+wrap64 ((k:Int) * wrap64 (1+x.tmod 5))) % 256:=⟨_,rfl⟩
   have hV2:blkV x k=V:=hV.symm
   rw[<- hV]
   rw[hV2]at Hl
   clear hV hV2
   go_roundw
   case rel=>
    exact⟨k+1,ys.set k V,by omega,by go_num,HB.out.set k V,by rw[List.length_set];exact Hl.out.1,Hl.out.2,Hb.out.setCell (Nat.le_refl _) _⟩
   case measure=>simp[intOf];omega
  ·obtain rfl:k=512:=by omega
   have e:ys=blkZ x:=by
    rw[List.take_of_length_le (by omega),List.take_of_length_le (by rw[length_blkZ];omega)]at hbs
    exact hbs
   have HB:=hid (e ▸ hB)
   have Hb:=hid hbt
   clear hB hbt hl hbs e
   go_wp2
   go_ret
   exact⟨w.heap.size,rfl,Nat.le_refl _,HB.out,Hb.out⟩
/-! ### numbers brought into bounds -/
theorem and62(n:Int):bits .and .i64 n 4611686018427387903=n % 4611686018427387904:=by
 have h127:(BitVec.ofInt 64 4611686018427387903).toNat=2 ^ 62-1:=by decide
 have key:(BitVec.ofInt 64 n &&& BitVec.ofInt 64 4611686018427387903).toNat=(n % ((2 ^ 64:Nat):Int)).toNat % 2 ^ 62:=by
  rw[BitVec.toNat_and,BitVec.toNat_ofInt,h127,Nat.and_two_pow_sub_one_eq_mod]
 show IntKind.i64.wrap ((BitVec.ofInt 64 n &&& BitVec.ofInt 64 4611686018427387903).toNat:Nat)=n % 4611686018427387904
 rw[key,IntKind.wrap_i64]
 omega
def into (m:Nat) (n:Int):Nat:=((n % 4611686018427387904).tmod m).toNat
theorem into_lt(n:Int)(h:0<m):into m n<m:=by
 have h1:0<=n % 4611686018427387904:=by omega
 have h2:=Int.tmod_lt_of_pos (n % 4611686018427387904) (b:=(m:Int)) (by omega)
 have h3:=Int.tmod_nonneg (m:Int) h1
 unfold into
 omega
theorem into_eq(m:Nat)(n:Int):(bits .and .i64 n 4611686018427387903).tmod (m:Int)=(into m n:Int):=by
 have h1:0<=n % 4611686018427387904:=by omega
 have h3:=Int.tmod_nonneg (m:Int) h1
 rw[and62]
 unfold into
 omega
theorem and62_pos(n:Int):0<=bits .and .i64 n 4611686018427387903/\bits .and .i64 n 4611686018427387903<4611686018427387904:=by rw[and62];omega
/-! ### jobs -/
structure JobD where
 at_:Int
 fi:Int
 fl:Bool
def jstep (nb:Nat) (s:List Int×List (Nat×List Int)) (d:JobD):List Int×List (Nat×List Int):=if d.fl then (flushZ s.1 s.2,[]) else (s.1,s.2++[(into nb d.at_,blkZ d.fi)])
theorem Dk.cut{puts:List (Nat×List Int)}{nb:Nat}(h:Dk X w p img puts fu off nb):Dk (fun x=>X x/\x<w.heap.size) w p img puts fu off nb:=by
 obtain⟨ds,gL,cL,pv,mp,e,h⟩:=h
 exact⟨ds,gL,cL,pv,mp,e,⟨h.blk,h.own,h.isb,h.lo,h.hi,h.row,fun d hd=>⟨(h.dat d hd).1,(h.dat d hd).2.1,(h.dat d hd).2.2.1,⟨(h.dat d hd).2.2.2.1,(h.dat d hd).1.lt⟩,(h.dat d hd).2.2.2.2⟩,h.map,⟨h.xp,h.blk.lt⟩,⟨h.xl,h.own.lt⟩,⟨h.xm,h.map.lt⟩,fun g e=>⟨h.xr g e,(World.ownsRow.lt h.row g e).2⟩,h.fus⟩⟩
theorem Dk.facts{puts:List (Nat×List Int)}{nb:Nat}(h:Dk X w p img puts fu off nb):Pl.isB img/\img.length=512 * nb/\(∀q∈puts,Pl.isB q.2)/\nb<=524288:=by
 obtain⟨ds,gL,cL,pv,mp,e,h⟩:=h
 refine⟨h.isb,h.own.len,fun q hq=>?_,h.hi⟩
 rw[<- e]at hq
 obtain⟨d,hd,rfl⟩:=List.mem_map.1 hq
 exact (h.dat d hd).2.1
end Go.Proofs.YtlefjidbpjkhlaaGreat
