import Derived.Test.YtlefjidbpjkhlaaGreatK18
import Derived.Test.YtlefjidbpjkhlaaGreatK11
import Derived.Deep.RegionHeld3
import Derived.Deep.DeepCutAuto
import Derived.RangeFuncNested
import Derived.RangeFuncBound
import Derived.RangeFuncCalls
import Derived.RangeFuncLeaves
import Derived.Shelf.Abstract
import Derived.Shelf.RegionOpen
import Derived.WalkKit
import Derived.OwnWalkIn
import Derived.TacticsInMore
import Derived.LoopNIn
import Derived.LoopIn
set_option maxRecDepth 100000
set_option maxHeartbeats 16000000
namespace Go.Proofs.YtlefjidbpjkhlaaGreat
variable {w:World}
variable {M e j k m n x:Nat}
variable {D:DataW (Nat×Nat×Int)}
variable {mv sv v:Value}
variable {xs:List Value}
open Go.RowKit Go.Deep
theorem info219:(Tryz.prog.info? 253).map (fun i=>(i.zero,i.size,i.bytes))=some (some .nilIface,1,16):=by kernel_rfl
theorem mapW_ne{m':Nat}(h:w.ownsMap Tryz.prog 3 wrElem m n D)(hx:Xb w x j m' sv mv):x≠m:=fun q=>by
 subst q
 obtain⟨es,ck,h1,_⟩:=h
 unfold Xb at hx
 rw[hx]at h1
 cases h1
theorem mapW_row{base nn:Nat}(h:w.ownsMap Tryz.prog 3 wrElem m n D)(hr:w.ownsRow base e 1 v nn xs)(hk:v.ownBlock=some k):k≠m:=fun q=>by
 subst q
 obtain⟨es,ck,h1,_⟩:=h
 rcases hr.2 with ⟨rfl,_⟩ | ⟨g,cap,cur,rfl,_,hg,_⟩
 ·simp[Value.ownBlock]at hk
 ·have:g=k:=by simpa [Value.ownBlock] using hk
  subst this
  rw[h1]at hg
  cases hg
theorem lay_raw{nb ns mc:Nat}{ma:Option Addr}(hX:Xb w x j m sv (.slice ma M mc))(hm:w.ownsMap Tryz.prog 3 wrElem m n D)(hS:w.ownsRow 0 253 1 sv ns xs)(hn:n<=1073741823)(hns:ns<=1073741823)(y:Nat)(hy:y<nb)(hnb:nb<=524288)(ad:Addr)(cd:Nat)(zs:List Int)(hR:Rd w.heap.size w (some ad) 512 zs){ba:Option Addr}{bn bc:Nat}{mk:Int}{ok:Bool}(hhas:Maps.has D (.int .i64 (y:Int))=ok)(hat:∀v ps,wrElem v=some (D.atKey (.int .i64 (y:Int)) .nil,ps)->v=.agg #[.slice ba bn bc,.int .i64 mk])(step:List Value)(hc:(step=[]/\M=0)\/(step=[]/\M≠0/\ok=true/\¬mk<(M:Int))\/(step=[.iface 207 (.int .i64 (y:Int))]/\M≠0/\ok=false)\/(step=[.iface 209 (.agg #[.int .i64 (y:Int),.slice ba bn bc,.int .i64 mk])]/\M≠0/\ok=true/\mk<(M:Int))) :
  Calls Tryz.prog 95 #[.pointer (some ⟨x,0,none⟩),.int .i64 (y:Int),.slice (some ad) 512 cd] w fun e w'=>e=.returned (.tuple #[])/\∃g cp sv',w.heap.size<=g/\Own w' g 512 cp zs/\w'.ownsMap Tryz.prog 3 wrElem m (n+1) (D.put (.int .i64 (y:Int)) (.held (g,cp,(M:Int))))/\Xb w' x j m sv' (.slice ma M mc)/\w'.ownsRow 0 253 1 sv' (ns+step.length) (xs++step)/\(∀k,sv'.ownBlock=some k->sv.ownBlock=some k\/w.heap.size<=k)/\But (fun k=>k=m\/k=x\/sv.ownBlock=some k) w w':=by
 refine poz fun PO hPO=>?_
 obtain⟨i219,hi9,hz9,hs9,hb9⟩:=info_parts info219
 have x1:=hX.cell 1
 simp at x1
 have hkey:keyOf Tryz.prog 3 (.int .i64 (y:Int))=some (.int .i64 (y:Int)):=Maps.keyOf_int_mk Tryz.underlying3 (WalkArith.wf_i64 (by omega))
 have hxl:=hX.lt
 obtain⟨w1,hw1⟩:∃w1,w1=w.alloc (.cells #[.slice ba bn bc,.int .i64 mk] 142):=⟨_,rfl⟩
 have b1:Below w.heap.size w w1:=by rw[hw1];exact (Below.refl _ _).alloc (Nat.le_refl _) _
 have s1:=b1.size
 have x3:=(b1.cell (p:=⟨x,3,none⟩) hxl).trans (hX.cell 3)
 simp at x3
 have HCl:Hid (Calls Tryz.prog 103 #[.slice (some ad) 512 cd] w1.drew fun e wc=>∃g cp,e=.returned (.slice (some ⟨g,0,none⟩) 512 cp)/\wc.cell? ⟨x,3,none⟩=some (.slice ma M mc)/\x<wc.heap.size/\∃nw g' cp',Value.pointer (some ⟨wc.heap.size,0,none⟩)=.pointer (some ⟨nw,0,none⟩)/\(wc.alloc (.cells #[.slice (some ⟨g,0,none⟩) 512 cp,.int .i64 (M:Int)] 142)).cell? ⟨nw,0,none⟩=some (.slice (some ⟨g',0,none⟩) 512 cp')/\(wc.alloc (.cells #[.slice (some ⟨g,0,none⟩) 512 cp,.int .i64 (M:Int)] 142)).cell? ⟨nw,1,none⟩=some (.int .i64 (M:Int))/\w1.heap.size<=nw/\w1.heap.size<=g'/\nw<(wc.alloc (.cells #[.slice (some ⟨g,0,none⟩) 512 cp,.int .i64 (M:Int)] 142)).heap.size/\Own (wc.alloc (.cells #[.slice (some ⟨g,0,none⟩) 512 cp,.int .i64 (M:Int)] 142)) g' 512 cp' zs/\Below w1.heap.size w1 (wc.alloc (.cells #[.slice (some ⟨g,0,none⟩) 512 cp,.int .i64 (M:Int)] 142))):=by
  refine Calls.mono (Clone_any ad 512 cd zs w1.drew (by omega) ((hR.below (b1.drew)).mono b1.size)) ?_
  rintro e wc ⟨g,cp,rfl,h1,h2,h3⟩
  have h3':Below w1.heap.size w1 wc:=(Below.refl w1.heap.size w1).drew.trans h3
  have h1':w1.heap.size<=g:=h1
  have s3:=h3'.size
  have b4:Below wc.heap.size wc (wc.alloc (.cells #[.slice (some ⟨g,0,none⟩) 512 cp,.int .i64 (M:Int)] 142)):=(Below.refl _ _).alloc (Nat.le_refl _) _
  exact⟨g,cp,rfl,(h3'.cell (p:=⟨x,3,none⟩) (by show x<_;omega)).trans x3,by omega,wc.heap.size,g,cp,rfl,cell_new rfl 0 _ rfl,cell_new rfl 1 _ rfl,s3,h1',by simp,h2.keep (b4.block g h2.lt),h3'.trans (b4.mono s3)⟩
 obtain⟨wB,hwB⟩:∃wB,wB=w1.alloc (.cells #[.slice none 0 0,.int .i64 0] 142):=⟨_,rfl⟩
 have bB:Below w1.heap.size w1 wB:=by rw[hwB];exact (Below.refl _ _).alloc (Nat.le_refl _) _
 have zB:wB.heap.size=w1.heap.size+1:=by rw[hwB];simp
 have x3B:(w1.alloc (.cells #[.slice none 0 0,.int .i64 0] 142)).drew.cell? ⟨x,3,none⟩=some (.slice ma M mc):=by
  rw[<- hwB]
  exact (bB.cell (p:=⟨x,3,none⟩) (by show x<_;omega)).trans x3
 have hxn:¬w1.heap.size=x:=by omega
 have HCB:Hid (Calls Tryz.prog 103 #[.slice (some ad) 512 cd] (w1.alloc (.cells #[.slice none 0 0,.int .i64 0] 142)).drew fun e wc=>∃g cp,e=.returned (.slice (some ⟨g,0,none⟩) 512 cp)/\wc.cell? ⟨x,3,none⟩=some (.slice ma M mc)/\wc.cell? ⟨w1.heap.size,0,none⟩=some (.slice none 0 0)/\wc.cell? ⟨w1.heap.size,1,none⟩=some (.int .i64 0)/\wc.frozen? ⟨w1.heap.size,0,none⟩=false/\wc.frozen? ⟨w1.heap.size,1,none⟩=false/\((wc.setCell ⟨w1.heap.size,0,none⟩ (.slice (some ⟨g,0,none⟩) 512 cp)).setCell ⟨w1.heap.size,1,none⟩ (.int .i64 (M:Int))).cell? ⟨x,3,none⟩=some (.slice ma M mc)/\∃nw g' cp',Value.pointer (some ⟨w1.heap.size,0,none⟩)=.pointer (some ⟨nw,0,none⟩)/\((wc.setCell ⟨w1.heap.size,0,none⟩ (.slice (some ⟨g,0,none⟩) 512 cp)).setCell ⟨w1.heap.size,1,none⟩ (.int .i64 (M:Int))).cell? ⟨nw,0,none⟩=some (.slice (some ⟨g',0,none⟩) 512 cp')/\((wc.setCell ⟨w1.heap.size,0,none⟩ (.slice (some ⟨g,0,none⟩) 512 cp)).setCell ⟨w1.heap.size,1,none⟩ (.int .i64 (M:Int))).cell? ⟨nw,1,none⟩=some (.int .i64 (M:Int))/\w1.heap.size<=nw/\w1.heap.size<=g'/\nw<((wc.setCell ⟨w1.heap.size,0,none⟩ (.slice (some ⟨g,0,none⟩) 512 cp)).setCell ⟨w1.heap.size,1,none⟩ (.int .i64 (M:Int))).heap.size/\Own ((wc.setCell ⟨w1.heap.size,0,none⟩ (.slice (some ⟨g,0,none⟩) 512 cp)).setCell ⟨w1.heap.size,1,none⟩ (.int .i64 (M:Int))) g' 512 cp' zs/\Below w1.heap.size w1 ((wc.setCell ⟨w1.heap.size,0,none⟩ (.slice (some ⟨g,0,none⟩) 512 cp)).setCell ⟨w1.heap.size,1,none⟩ (.int .i64 (M:Int)))):=by
  rw[<- hwB]
  refine Calls.mono (Clone_any ad 512 cd zs wB.drew (by omega) ((hR.below (b1.trans (bB.mono s1)).drew).mono (by show w.heap.size<=wB.heap.size;omega))) ?_
  rintro e wc ⟨g,cp,rfl,h1,h2,h3⟩
  have h3':Below wB.heap.size wB wc:=(Below.refl wB.heap.size wB).drew.trans h3
  have h1':wB.heap.size<=g:=h1
  have s3:=h3'.size
  have kb:wc.heap[w1.heap.size]?=some (.cells #[.slice none 0 0,.int .i64 0] 142 (0,0)):=(h3'.block w1.heap.size (by omega)).trans (by rw[hwB];exact Array.getElem?_push_size)
  have bS:But (fun k=>k=w1.heap.size) wc ((wc.setCell ⟨w1.heap.size,0,none⟩ (.slice (some ⟨g,0,none⟩) 512 cp)).setCell ⟨w1.heap.size,1,none⟩ (.int .i64 (M:Int))):=((But.refl (fun k=>k=w1.heap.size) wc).setCell rfl _).setCell rfl _
  have kf:((wc.setCell ⟨w1.heap.size,0,none⟩ (.slice (some ⟨g,0,none⟩) 512 cp)).setCell ⟨w1.heap.size,1,none⟩ (.int .i64 (M:Int))).heap[w1.heap.size]?=some (.cells #[.slice (some ⟨g,0,none⟩) 512 cp,.int .i64 (M:Int)] 142 (0,0)):=by
   simp only[World.setCell,Array.getElem?_modify]
   rw[kb]
   simp
  have bw:Below w1.heap.size w1 ((wc.setCell ⟨w1.heap.size,0,none⟩ (.slice (some ⟨g,0,none⟩) 512 cp)).setCell ⟨w1.heap.size,1,none⟩ (.int .i64 (M:Int))):=((But.of_below (bB.trans (h3'.mono (by omega))) (X:=fun k=>k=w1.heap.size)).comp bS (fun _ _ q=>q)).below (Nat.le_refl _) (fun k hk q=>by omega)
  refine⟨g,cp,rfl,(h3'.cell (p:=⟨x,3,none⟩) (by show x<_;omega)).trans ((bB.cell (p:=⟨x,3,none⟩) (by show x<_;omega)).trans x3),by simp[World.cell?,kb],by simp[World.cell?,kb],by simp[World.frozen?,kb],by simp[World.frozen?,kb],(bS.cell (p:=⟨x,3,none⟩) (by show x<_;omega) (by show ¬x=w1.heap.size;omega)).trans ((h3'.cell (p:=⟨x,3,none⟩) (by show x<_;omega)).trans ((bB.cell (p:=⟨x,3,none⟩) (by show x<_;omega)).trans x3)),w1.heap.size,g,cp,rfl,by simp only[World.cell?,kf];rfl,by simp only[World.cell?,kf];rfl,Nat.le_refl _,by omega,by simp;omega,h2.keep (bS.block g h2.lt (by omega)),bw⟩
 have hb6:w1.cell? ⟨w.heap.size,0,none⟩=some (.slice ba bn bc):=by rw[hw1];exact cell_new rfl 0 _ rfl
 have hb7:w1.cell? ⟨w.heap.size,1,none⟩=some (.int .i64 mk):=by rw[hw1];exact cell_new rfl 1 _ rfl
 have z1':w1.heap.size=w.heap.size+1:=by rw[hw1];simp
 have hml:m<w.heap.size:=hm.lt
 have hxm:=mapW_ne hm hX
 have HFF:Hid (∀wq wz nw g cp sv',Below w1.heap.size w1 wq->w1.heap.size<=nw->w1.heap.size<=g->nw<wq.heap.size->wq.cell? ⟨nw,0,none⟩=some (.slice (some ⟨g,0,none⟩) 512 cp)->wq.cell? ⟨nw,1,none⟩=some (.int .i64 (M:Int))->Own wq g 512 cp zs->But (fun k=>k=x\/sv.ownBlock=some k) wq wz->Xb wz x j m sv' (.slice ma M mc)->wz.ownsRow 0 253 1 sv' (ns+step.length) (xs++step)->(∀k,sv'.ownBlock=some k->sv.ownBlock=some k\/w.heap.size<=k)->wz.cell? ⟨x,1,none⟩=some (.map (some m))/\wz.cell? ⟨nw,0,none⟩=some (.slice (some ⟨g,0,none⟩) 512 cp)/\wz.cell? ⟨nw,1,none⟩=some (.int .i64 (M:Int))/\∃wU,(Instr.mapUpdate 132 (.map (some m)) (.int .i64 (y:Int)) (.agg #[.slice (some ⟨g,0,none⟩) 512 cp,.int .i64 (M:Int)])).run Tryz.prog wz.drew=.ok () wU/\wU.cell? ⟨x,1,none⟩=some (.map (some m))/\wU.cell? ⟨nw,0,none⟩=some (.slice (some ⟨g,0,none⟩) 512 cp)/\wU.cell? ⟨nw,1,none⟩=some (.int .i64 (M:Int))/\PO (.returned (.tuple #[])) wU):=fun wq wz nw g cp sv' bq hnw hg hnl q0 q1 ho bz hXz hSz hob=>by
  have sq:=bq.size
  have sz:=bz.size
  have hsvlt:∀k,sv.ownBlock=some k->k<w.heap.size:=fun k e=>(World.ownsRow.lt hS k e).2
  have bwq:Below w.heap.size w wq:=b1.trans (bq.mono s1)
  have hnx:¬(nw=x\/sv.ownBlock=some nw):=fun e=>e.elim (fun e=>by omega) (fun e=>by have:=hsvlt _ e;omega)
  have hgx:¬(g=x\/sv.ownBlock=some g):=fun e=>e.elim (fun e=>by omega) (fun e=>by have:=hsvlt _ e;omega)
  have hmx:¬(m=x\/sv.ownBlock=some m):=fun e=>e.elim (fun e=>hxm e.symm) (fun e=>mapW_row hm hS e rfl)
  have hmz:wz.heap[m]?=w.heap[m]?:=(bz.block m (by omega) hmx).trans (bwq.block m hml)
  obtain⟨wU,hrun,hownU,hturn⟩:=World.ownsMap.store (w:=wz.drew) (mapW_keep hm hmz) law3 Tryz.underlying132 (by unfold maxLen;omega) hkey (val:=.agg #[.slice (some ⟨g,0,none⟩) 512 cp,.int .i64 (M:Int)]) (d:=.held (g,cp,(M:Int))) (ps:=[]) rfl
  have tb:But (fun k=>k=m) wz wU:=(But.of_below (Below.refl wz.heap.size wz).drew (X:=fun k=>k=m)).comp (turned_but hturn) (fun _ _ q=>q)
  have z0:=(bz.cell (p:=⟨nw,0,none⟩) hnl hnx).trans q0
  have z1:=(bz.cell (p:=⟨nw,1,none⟩) hnl hnx).trans q1
  have zx:=hXz.cell 1
  simp at zx
  have hxz:x<wz.heap.size:=hXz.lt
  refine⟨zx,z0,z1,wU,hrun,(tb.cell (p:=⟨x,1,none⟩) hxz hxm).trans zx,(tb.cell (p:=⟨nw,0,none⟩) (by show nw<_;omega) (by show ¬nw=m;omega)).trans z0,(tb.cell (p:=⟨nw,1,none⟩) (by show nw<_;omega) (by show ¬nw=m;omega)).trans z1,?_⟩
  rw[hPO]
  have ho2:Own wz g 512 cp zs:=ho.keep (bz.block g ho.lt hgx)
  refine⟨rfl,g,cp,sv',by omega,ho2.keep (tb.block g ho2.lt (by omega)),hownU,hXz.keep (tb.block x hxz hxm),owns_keep hSz (fun k e=>tb.block k (World.ownsRow.lt hSz k e).2 (mapW_row (mapW_keep hm hmz) hSz e)),hob,?_⟩
  exact ((But.of_below bwq (X:=fun k=>k=m\/k=x\/sv.ownBlock=some k)).comp bz (fun _ _ q=>.inr q)).comp tb (fun _ _ q=>.inl q)
 have HNN:Hid (∀wq W u,Below w1.heap.size w1 wq->Below wq.heap.size wq W->∀w6 g4 cap4,w6.ownsRow 0 253 1 (Value.slice (some ⟨g4,0,none⟩) (ns+1) cap4) (ns+1) (xs++[u])->W.grownBy w6 sv.ownBlock->(sv.ownBlock=some g4\/g4=wq.heap.size+1)->w6.cell? ⟨x,2,none⟩=some sv/\w6.frozen? ⟨x,2,none⟩=false/\(w6.cell? ⟨w.heap.size,0,none⟩=some (.slice ba bn bc)/\w6.cell? ⟨w.heap.size,1,none⟩=some (.int .i64 mk))/\((w6.setCell ⟨x,2,none⟩ (Value.slice (some ⟨g4,0,none⟩) (ns+1) cap4)).cell? ⟨w.heap.size,0,none⟩=some (.slice ba bn bc)/\(w6.setCell ⟨x,2,none⟩ (Value.slice (some ⟨g4,0,none⟩) (ns+1) cap4)).cell? ⟨w.heap.size,1,none⟩=some (.int .i64 mk))/\But (fun k=>k=x\/sv.ownBlock=some k) wq (w6.setCell ⟨x,2,none⟩ (Value.slice (some ⟨g4,0,none⟩) (ns+1) cap4))/\Xb (w6.setCell ⟨x,2,none⟩ (Value.slice (some ⟨g4,0,none⟩) (ns+1) cap4)) x j m (Value.slice (some ⟨g4,0,none⟩) (ns+1) cap4) (.slice ma M mc)/\(w6.setCell ⟨x,2,none⟩ (Value.slice (some ⟨g4,0,none⟩) (ns+1) cap4)).ownsRow 0 253 1 (Value.slice (some ⟨g4,0,none⟩) (ns+1) cap4) (ns+1) (xs++[u])/\(∀k,(Value.slice (some ⟨g4,0,none⟩) (ns+1) cap4).ownBlock=some k->sv.ownBlock=some k\/w.heap.size<=k)):=fun wq W u bq bW w6 g4 cap4 ho hg hl=>by
  have sq:=bq.size
  have sW:=bW.size
  have bg:But (fun k=>sv.ownBlock=some k) W w6:=(But.refl _ W).of_grown hg (fun k e _=>e)
  have sg:=bg.size
  have bwq:Below w.heap.size w wq:=b1.trans (bq.mono s1)
  have hxn:¬sv.ownBlock=some x:=fun e=>row_ne_x hS hX (by decide) e rfl
  have hx6:Xb w6 x j m sv (.slice ma M mc):=hX.keep (((bg.block x (by omega) hxn).trans (bW.block x (by omega))).trans (bwq.block x hxl))
  have hs6:=hx6.set2 (Value.slice (some ⟨g4,0,none⟩) (ns+1) cap4)
  have hg4x:g4≠x:=by
   rcases hl with e | e
   ·exact row_ne_x hS hX (by decide) e
   ·omega
  have hpn:¬sv.ownBlock=some w.heap.size:=fun e=>by have:=(World.ownsRow.lt hS _ e).2;omega
  have kk:∀t v,w1.cell? ⟨w.heap.size,t,none⟩=some v->w6.cell? ⟨w.heap.size,t,none⟩=some v:=fun t v hv=>(bg.cell (p:=⟨w.heap.size,t,none⟩) (by show w.heap.size<_;omega) hpn).trans ((bW.cell (p:=⟨w.heap.size,t,none⟩) (by show w.heap.size<_;omega)).trans ((bq.cell (p:=⟨w.heap.size,t,none⟩) (by show w.heap.size<_;omega)).trans hv))
  have bs:But (fun k=>k=x) w6 (w6.setCell ⟨x,2,none⟩ (Value.slice (some ⟨g4,0,none⟩) (ns+1) cap4)):=(But.refl (fun k=>k=x) w6).setCell (p:=⟨x,2,none⟩) rfl _
  have d2:=hx6.cell 2
  simp at d2
  have hpx:¬w.heap.size=x:=by omega
  refine⟨d2,hx6.frozen 2,⟨kk 0 _ hb6,kk 1 _ hb7⟩,⟨(bs.cell (p:=⟨w.heap.size,0,none⟩) (by show w.heap.size<_;omega) hpx).trans (kk 0 _ hb6),(bs.cell (p:=⟨w.heap.size,1,none⟩) (by show w.heap.size<_;omega) hpx).trans (kk 1 _ hb7)⟩,?_,hs6,owns_keep ho (fun k e=>?_),fun k e=>?_⟩
  ·exact ((But.of_below bW (X:=fun k=>k=x\/sv.ownBlock=some k)).comp bg (fun _ _ q=>.inr q)).comp bs (fun _ _ q=>.inl q)
  ·have:g4=k:=by simpa [Value.ownBlock] using e
   subst this
   exact bs.block g4 (World.ownsRow.lt ho g4 rfl).2 hg4x
  ·have:g4=k:=by simpa [Value.ownBlock] using e
   subst this
   exact hl.imp id (fun e=>by omega)
 have HXq:Hid (∀wq,Below w1.heap.size w1 wq->Xb wq x j m sv (.slice ma M mc)/\wq.ownsRow 0 253 1 sv ns xs/\(∀k,sv.ownBlock=some k->k<w.heap.size)/\wq.cell? ⟨w.heap.size,0,none⟩=some (.slice ba bn bc)/\wq.cell? ⟨w.heap.size,1,none⟩=some (.int .i64 mk)):=fun wq bq=>by
  have bwq:Below w.heap.size w wq:=b1.trans (bq.mono s1)
  exact⟨hX.keep (bwq.block x hxl),owns_below hS bwq,fun k e=>(World.ownsRow.lt hS k e).2,(bq.cell (p:=⟨w.heap.size,0,none⟩) (by show w.heap.size<_;omega)).trans hb6,(bq.cell (p:=⟨w.heap.size,1,none⟩) (by show w.heap.size<_;omega)).trans hb7⟩
 have HW1:=hid hw1
 clear hX hw1 b1 hR hPO hwB bB zB hS hb6 hb7 z1'
 go_enter Tryz.func95,Tryz.ntmps95
 go_upto_region 1 with (at_lookup;refine wpList_lookup_own_ok _ rfl _ _ 132 rfl 3 142 law3 Tryz.underlying132 wrElem (zero214 _) .nil [] rfl m n D rfl hm _ _ rfl hkey ?_;intro v ps hv;obtain rfl:=hat v ps hv;clear hv;rw[hhas])
 rw[<- HW1.out]
 go_cut [8] (fun s8 wx=>∃nw g cp,s8=.pointer (some ⟨nw,0,none⟩)/\wx.cell? ⟨nw,0,none⟩=some (.slice (some ⟨g,0,none⟩) 512 cp)/\wx.cell? ⟨nw,1,none⟩=some (.int .i64 (M:Int))/\w1.heap.size<=nw/\w1.heap.size<=g/\nw<wx.heap.size/\Own wx g 512 cp zs/\Below w1.heap.size w1 wx)
 case first=>
  refine wp_region_noPanic ?_
  refine Gz (S:=fun w'=>w'.cell? ⟨x,3,none⟩=some (.slice ma M mc)) x3 (fun hSS=>?_)
  refine Ti 0 rfl ?_
  refine Ti 2 rfl ?_
  refine Ti 3 rfl ?_
  refine Ti 4 rfl ?_
  refine Ti 5 rfl ?_
  refine Ti 6 rfl ?_
  try simp only[Act.put,zA,zB,zC]
  refine Rr 1 8 rfl rfl (fun K9 hK9=>?_) (fun K9 hK9=>?_)
  ·go_simp
   go_at_call 103
   refine Calls.mono HCl.out ?_
   rintro e wc ⟨g,cp,rfl,x3',hxc,hF⟩
   have HF:=hid hF
   clear HCl hF HCB
   refine hK9.out _ _ x3' (fun hSS=>?_)
   try simp only[Act.put,zA,zB,zC]
   refine Ti 7 rfl ?_
   try simp only[Act.put,zA,zB,zC]
   refine Ri 8 rfl (fun K9 hK9=>?_)
   go_simp
   refine hK9.out _ _ (by first | exact x3' | exact (((Below.refl wc.heap.size wc).alloc (Nat.le_refl _) _).cell (p:=⟨x,3,none⟩) hxc).trans x3') (fun hSS=>?_)
   try simp only[Act.put,zA,zB,zC]
   refine Ri 9 rfl (fun K9 hK9=>?_)
   go_simp
   refine hK9.out _ _ (by first | exact x3' | exact (((Below.refl wc.heap.size wc).alloc (Nat.le_refl _) _).cell (p:=⟨x,3,none⟩) hxc).trans x3') (fun hSS=>?_)
   try simp only[Act.put,zA,zB,zC]
   refine Dn (NoPanic.normal ?_)
   clear hSS
   go_wp2_with fail
   go_meet
   exact HF.out
  ·go_simp
   refine hK9.out _ _ x3B (fun hSS=>?_)
   try simp only[Act.put,zA,zB,zC]
   refine Ri 1 rfl (fun K9 hK9=>?_)
   go_simp
   go_at_call 103
   refine Calls.mono HCB.out ?_
   rintro e wc ⟨g,cp,rfl,x3',n0,n1,f0,f1,x3s,hF⟩
   have HF:=hid hF
   clear HCl hF HCB
   refine hK9.out _ _ x3' (fun hSS=>?_)
   try simp only[Act.put,zA,zB,zC]
   refine Ti 7 rfl ?_
   try simp only[Act.put,zA,zB,zC]
   refine Ri 9 rfl (fun K9 hK9=>?_)
   go_simp
   refine hK9.out _ _ x3s (fun hSS=>?_)
   try simp only[Act.put,zA,zB,zC]
   refine Dn (NoPanic.normal ?_)
   clear hSS
   go_wp2_with fail
   go_meet
   exact HF.out
 case rest=>
 rename World=>wq
 obtain⟨nw,g,cp,rfl,q0,q1,hnw,hg,hnl,ho,bq⟩:=hcut
 obtain⟨hXq,hSq,hsvl,s0,s1q⟩:=HXq.out wq bq
 have x2q:=hXq.cell 2
 simp at x2q
 have hxq:=hXq.lt
 have Hbq:=hid bq
 have Hoq:=hid ho
 have HRq:=hid hSq
 clear HXq HCl HCB hat hm hkey x3 x3B hxn x1 HW1 hhas hy hnb hSq bq ho
 rcases hc with ⟨rfl,hM⟩ | ⟨rfl,hM,rfl,hmk⟩ | ⟨rfl,hM,rfl⟩ | ⟨rfl,hM,rfl,hmk⟩
 ·have HF7:=hid (HFF.out wq wq nw g cp sv Hbq.out hnw hg hnl q0 q1 Hoq.out (But.refl _ _) hXq (by simpa using HRq.out) (fun k e=>.inl e))
  have hM':(M:Int)=0:=by omega
  obtain⟨zx,z0,z1,wU,hrun,u1,u2,u3,hFin⟩:=HF7.out
  rw[hM']at hrun z1 u3 q1
  have FIN:=hid hFin
  clear hM' hM hFin HF7 HFF HNN hXq HRq Hoq Hbq x2q s0 s1q hi9 hz9 hs9 hb9 hn hns
  go_wp2_with fail
  refine wp_region_noPanic ?_
  refine Gz (S:=fun w'=>w'.cell? ⟨x,1,none⟩=some (.map (some m))/\w'.cell? ⟨nw,0,none⟩=some (.slice (some ⟨g,0,none⟩) 512 cp)/\w'.cell? ⟨nw,1,none⟩=some (.int .i64 0)) ⟨zx,z0,z1⟩ (fun hSS=>?_)
  refine Ti 0 rfl ?_
  try simp only[Act.put,zA,zB,zC]
  refine Ti 1 rfl ?_
  refine Ti 2 rfl ?_
  refine Ti 3 rfl ?_
  refine Ti 4 rfl ?_
  refine Ti 5 rfl ?_
  try simp only[Act.put,zA,zB,zC]
  refine Ri 6 rfl (fun K9 hK9=>?_)
  go_simp
  refine hK9.out _ _ ⟨u1,u2,u3⟩ (fun hSS=>?_)
  try simp only[Act.put,zA,zB,zC]
  refine Dn (NoPanic.normal ?_)
  clear hSS
  go_wp2
  go_end0
  exact FIN.out
 ·have HF7:=hid (HFF.out wq wq nw g cp sv Hbq.out hnw hg hnl q0 q1 Hoq.out (But.refl _ _) hXq (by simpa using HRq.out) (fun k e=>.inl e))
  have hM':¬(M:Int)=0:=by omega
  obtain⟨zx,z0,z1,wU,hrun,u1,u2,u3,hFin⟩:=HF7.out
  have FIN:=hid hFin
  clear hFin HF7 HFF HNN hXq HRq Hoq Hbq x2q hi9 hz9 hs9 hb9 hn hns
  go_wp2_with fail
  refine wp_region_noPanic ?_
  refine Gz (S:=fun w'=>w'.cell? ⟨x,1,none⟩=some (.map (some m))/\w'.cell? ⟨nw,0,none⟩=some (.slice (some ⟨g,0,none⟩) 512 cp)/\w'.cell? ⟨nw,1,none⟩=some (.int .i64 (M:Int))) ⟨zx,z0,z1⟩ (fun hSS=>?_)
  refine Ti 0 rfl ?_
  refine Ti 1 rfl ?_
  try simp only[Act.put,zA,zB,zC]
  refine Ti 2 rfl ?_
  refine Ti 3 rfl ?_
  refine Ti 4 rfl ?_
  refine Ti 5 rfl ?_
  try simp only[Act.put,zA,zB,zC]
  refine Ri 6 rfl (fun K9 hK9=>?_)
  go_simp
  refine hK9.out _ _ ⟨u1,u2,u3⟩ (fun hSS=>?_)
  try simp only[Act.put,zA,zB,zC]
  refine Dn (NoPanic.normal ?_)
  clear hSS
  go_wp2
  go_end0
  exact FIN.out
 ·have hM':¬(M:Int)=0:=by omega
  have bA:Below wq.heap.size wq (wq.alloc (.cells #[.iface 207 (.int .i64 (y:Int))] 253)):=(Below.refl _ _).alloc (Nat.le_refl _) _
  have HRowQ:=hid (owns_below HRq.out bA)
  have HN4:Hid (∀w6 g4 cap4,w6.ownsRow 0 253 1 (Value.slice (some ⟨g4,0,none⟩) (ns+1) cap4) (ns+1) (xs++[.iface 207 (.int .i64 (y:Int))])->(wq.alloc (.cells #[.iface 207 (.int .i64 (y:Int))] 253)).grownBy w6 sv.ownBlock->(sv.ownBlock=some g4\/g4=wq.heap.size+1)->w6.cell? ⟨x,2,none⟩=some sv/\w6.frozen? ⟨x,2,none⟩=false/\∀wz,wz=w6.setCell ⟨x,2,none⟩ (Value.slice (some ⟨g4,0,none⟩) (ns+1) cap4)->wz.cell? ⟨x,1,none⟩=some (.map (some m))/\wz.cell? ⟨nw,0,none⟩=some (.slice (some ⟨g,0,none⟩) 512 cp)/\wz.cell? ⟨nw,1,none⟩=some (.int .i64 (M:Int))/\∃wU,(Instr.mapUpdate 132 (.map (some m)) (.int .i64 (y:Int)) (.agg #[.slice (some ⟨g,0,none⟩) 512 cp,.int .i64 (M:Int)])).run Tryz.prog wz.drew=.ok () wU/\wU.cell? ⟨x,1,none⟩=some (.map (some m))/\wU.cell? ⟨nw,0,none⟩=some (.slice (some ⟨g,0,none⟩) 512 cp)/\wU.cell? ⟨nw,1,none⟩=some (.int .i64 (M:Int))/\PO (.returned (.tuple #[])) wU):=fun w6 g4 cap4 ho hg hl=>by
   obtain⟨r1,r2,_,_,r5,r6,r7,r8⟩:=HNN.out wq _ (.iface 207 (.int .i64 (y:Int))) Hbq.out bA w6 g4 cap4 ho hg hl
   exact⟨r1,r2,fun wz e=>by subst e;exact HFF.out wq _ nw g cp _ Hbq.out hnw (by assumption) hnl q0 q1 Hoq.out r5 r6 r7 r8⟩
  clear HFF HNN bA
  go_wp2_with (at_builtin;refine wpList_append_lies _ rfl _ _ _ rfl 0 253 i219 .nilIface 1 16 Tryz.underlying133 hi9 hz9 hs9 hb9 rfl (by decide) _ ns _ rfl (by exact HRowQ.out) ⟨wq.heap.size,0,none⟩ 1 1 [.iface 207 (.int .i64 (y:Int))] rfl rfl (by exact news1 wq _ _) (by intro u hu;simp at hu;subst hu;rfl) (by decide) (by unfold maxLen;omega) (by omega) (Nat.zero_le _) (wq.heap.size+1) (by simp) ?_;intro g4 cap4 w6 ho4 hg4 hlie4 _;obtain⟨y2,yf,hF⟩:=HN4.out w6 g4 cap4 ho4 hg4 hlie4;have HF:=hid hF;clear ho4 hg4 hlie4 hF HN4 HRowQ x2q)
  obtain⟨wz,hwz⟩:∃wz,wz=w6.setCell ⟨x,2,none⟩ (Value.slice (some ⟨g4,0,none⟩) (ns+1) cap4):=⟨_,rfl⟩
  rw[<- hwz]
  obtain⟨zx,z0,z1,wU,hrun,u1,u2,u3,hFin⟩:=HF.out wz hwz
  have FIN:=hid hFin
  clear hFin hwz HF y2 yf hXq HRq Hoq Hbq hi9 hz9 hs9 hb9 hn hns
  go_wp2_with fail
  refine wp_region_noPanic ?_
  refine Gz (S:=fun w'=>w'.cell? ⟨x,1,none⟩=some (.map (some m))/\w'.cell? ⟨nw,0,none⟩=some (.slice (some ⟨g,0,none⟩) 512 cp)/\w'.cell? ⟨nw,1,none⟩=some (.int .i64 (M:Int))) ⟨zx,z0,z1⟩ (fun hSS=>?_)
  refine Ti 0 rfl ?_
  refine Ti 1 rfl ?_
  refine Ti 2 rfl ?_
  try simp only[Act.put,zA,zB,zC]
  refine Ti 3 rfl ?_
  refine Ti 4 rfl ?_
  refine Ti 5 rfl ?_
  try simp only[Act.put,zA,zB,zC]
  refine Ri 6 rfl (fun K9 hK9=>?_)
  go_simp
  refine hK9.out _ _ ⟨u1,u2,u3⟩ (fun hSS=>?_)
  try simp only[Act.put,zA,zB,zC]
  refine Dn (NoPanic.normal ?_)
  clear hSS
  go_wp2
  go_end0
  exact FIN.out
 ·have hM':¬(M:Int)=0:=by omega
  have bA:Below wq.heap.size wq (wq.alloc (.cells #[.iface 209 (.agg #[.int .i64 (y:Int),.slice ba bn bc,.int .i64 mk])] 253)):=(Below.refl _ _).alloc (Nat.le_refl _) _
  have HRowQ:Hid ((wq.alloc (.cells #[.iface 209 (.agg #[.int .i64 (y:Int),.slice ba bn bc,.int .i64 mk])] 253)).drew.ownsRow 0 253 1 sv ns xs):=owns_below HRq.out bA.drew
  have HN6:Hid (∀w6 g4 cap4,w6.ownsRow 0 253 1 (Value.slice (some ⟨g4,0,none⟩) (ns+1) cap4) (ns+1) (xs++[.iface 209 (.agg #[.int .i64 (y:Int),.slice ba bn bc,.int .i64 mk])])->(wq.alloc (.cells #[.iface 209 (.agg #[.int .i64 (y:Int),.slice ba bn bc,.int .i64 mk])] 253)).drew.grownBy w6 sv.ownBlock->(sv.ownBlock=some g4\/g4=wq.heap.size+1)->w6.cell? ⟨x,2,none⟩=some sv/\w6.frozen? ⟨x,2,none⟩=false/\(w6.cell? ⟨w.heap.size,0,none⟩=some (.slice ba bn bc)/\w6.cell? ⟨w.heap.size,1,none⟩=some (.int .i64 mk))/\((w6.setCell ⟨x,2,none⟩ (Value.slice (some ⟨g4,0,none⟩) (ns+1) cap4)).cell? ⟨w.heap.size,0,none⟩=some (.slice ba bn bc)/\(w6.setCell ⟨x,2,none⟩ (Value.slice (some ⟨g4,0,none⟩) (ns+1) cap4)).cell? ⟨w.heap.size,1,none⟩=some (.int .i64 mk))/\∀wz,wz=w6.setCell ⟨x,2,none⟩ (Value.slice (some ⟨g4,0,none⟩) (ns+1) cap4)->wz.cell? ⟨x,1,none⟩=some (.map (some m))/\wz.cell? ⟨nw,0,none⟩=some (.slice (some ⟨g,0,none⟩) 512 cp)/\wz.cell? ⟨nw,1,none⟩=some (.int .i64 (M:Int))/\∃wU,(Instr.mapUpdate 132 (.map (some m)) (.int .i64 (y:Int)) (.agg #[.slice (some ⟨g,0,none⟩) 512 cp,.int .i64 (M:Int)])).run Tryz.prog wz.drew=.ok () wU/\wU.cell? ⟨x,1,none⟩=some (.map (some m))/\wU.cell? ⟨nw,0,none⟩=some (.slice (some ⟨g,0,none⟩) 512 cp)/\wU.cell? ⟨nw,1,none⟩=some (.int .i64 (M:Int))/\PO (.returned (.tuple #[])) wU):=fun w6 g4 cap4 ho hg hl=>by
   obtain⟨r1,r2,r3,r4,r5,r6,r7,r8⟩:=HNN.out wq _ (.iface 209 (.agg #[.int .i64 (y:Int),.slice ba bn bc,.int .i64 mk])) Hbq.out bA.drew w6 g4 cap4 ho hg hl
   exact⟨r1,r2,r3,r4,fun wz e=>by subst e;exact HFF.out wq _ nw g cp _ Hbq.out hnw (by assumption) hnl q0 q1 Hoq.out r5 r6 r7 r8⟩
  have r0:(wq.alloc (.cells #[.iface 209 (.agg #[.int .i64 (y:Int),.slice ba bn bc,.int .i64 mk])] 253)).drew.cell? ⟨w.heap.size,0,none⟩=some (.slice ba bn bc):=(bA.cell (p:=⟨w.heap.size,0,none⟩) (World.block_lt_of_cell? wq ⟨w.heap.size,0,none⟩ s0)).trans s0
  have r1:(wq.alloc (.cells #[.iface 209 (.agg #[.int .i64 (y:Int),.slice ba bn bc,.int .i64 mk])] 253)).drew.cell? ⟨w.heap.size,1,none⟩=some (.int .i64 mk):=(bA.cell (p:=⟨w.heap.size,1,none⟩) (World.block_lt_of_cell? wq ⟨w.heap.size,1,none⟩ s1q)).trans s1q
  have x2D:(wq.alloc (.cells #[.iface 209 (.agg #[.int .i64 (y:Int),.slice ba bn bc,.int .i64 mk])] 253)).drew.cell? ⟨x,2,none⟩=some sv:=(bA.cell (p:=⟨x,2,none⟩) hxq).trans x2q
  clear HFF HNN bA
  go_wp2_with fail
  refine wp_region_noPanic ?_
  refine Gz (S:=fun w'=>w'.cell? ⟨w.heap.size,0,none⟩=some (.slice ba bn bc)/\w'.cell? ⟨w.heap.size,1,none⟩=some (.int .i64 mk)) ⟨s0,s1q⟩ (fun hSS=>?_)
  refine Ti 0 rfl ?_
  refine Ti 1 rfl ?_
  refine Ti 2 rfl ?_
  refine Ti 3 rfl ?_
  try simp only[Act.put,zA,zB,zC]
  refine Ti 5 rfl ?_
  refine Ti 6 rfl ?_
  refine Ti 7 rfl ?_
  refine Ti 8 rfl ?_
  try simp only[Act.put,zA,zB,zC]
  refine Rr 4 9 rfl rfl (fun K9 hK9=>?_) (fun K9 hK9=>?_)
  ·go_simp
   refine hK9.out _ _ hSS (fun hSS=>?_)
   try simp only[Act.put,zA,zB,zC]
   refine Ri 9 rfl (fun K9 hK9=>?_)
   go_simp
   refine hK9.out _ _ ⟨r0,r1⟩ (fun hSS=>?_)
   try simp only[Act.put,zA,zB,zC]
   refine Ri 10 rfl (fun K9 hK9=>?_)
   refine step_append_lies _ (by rfl) _ _ _ (by rfl) 0 253 i219 .nilIface 1 16 Tryz.underlying133 hi9 hz9 hs9 hb9 rfl (by decide) _ ns _ (by rfl) (by exact HRowQ.out) ⟨wq.heap.size,0,none⟩ 1 1 [.iface 209 (.agg #[.int .i64 (y:Int),.slice ba bn bc,.int .i64 mk])] (by rfl) (by rfl) (by exact news1 wq _ _) (by intro u hu;simp at hu;subst hu;rfl) (by decide) (by unfold maxLen;omega) (by omega) (Nat.zero_le _) (wq.heap.size+1) (by simp) ?_
   intro g4 cap4 w6 ho4 hg4 hlie4 _
   obtain⟨y2,yf,yS,yT,hF⟩:=HN6.out w6 g4 cap4 ho4 hg4 hlie4
   have HF:=hid hF
   clear ho4 hg4 hlie4 hF HN6
   dsimp [Act.put]
   refine hK9.out _ _ yS (fun hSS=>?_)
   try simp only[List.setIfInBounds_toArray,List.set_cons_zero,List.set_cons_succ]
   refine Ti 11 rfl ?_
   refine Ti 12 rfl ?_
   try simp only[Act.put,zA,zB,zC]
   refine Ri 13 rfl (fun K9 hK9=>?_)
   go_simp
   refine hK9.out _ _ yT (fun hSS=>?_)
   try simp only[Act.put,zA,zB,zC]
   refine Dn (NoPanic.normal ?_)
   clear hSS
   obtain⟨wz,hwz⟩:∃wz,wz=w6.setCell ⟨x,2,none⟩ (Value.slice (some ⟨g4,0,none⟩) (ns+1) cap4):=⟨_,rfl⟩
   have HF7:=hid (HF.out _ rfl)
   rw[<- hwz]at HF7
   go_wp2_with fail
   rw[<- hwz]
   clear hwz HF yS yT
   obtain⟨zx,z0,z1,wU,hrun,u1,u2,u3,hFin⟩:=HF7.out
   have FIN:=hid hFin
   clear hFin HF7 y2 yf s0 s1q x2q x2D r0 r1 HRowQ hi9 hz9 hs9 hb9 hxq
   go_wp2_with fail
   refine wp_region_noPanic ?_
   refine Gz (S:=fun w'=>w'.cell? ⟨x,1,none⟩=some (.map (some m))/\w'.cell? ⟨nw,0,none⟩=some (.slice (some ⟨g,0,none⟩) 512 cp)/\w'.cell? ⟨nw,1,none⟩=some (.int .i64 (M:Int))) ⟨zx,z0,z1⟩ (fun hSS=>?_)
   refine Ti 0 rfl ?_
   refine Ti 1 rfl ?_
   try simp only[Act.put,zA,zB,zC]
   refine Ti 2 rfl ?_
   refine Ti 3 rfl ?_
   refine Ti 4 rfl ?_
   refine Ti 5 rfl ?_
   try simp only[Act.put,zA,zB,zC]
   refine Ri 6 rfl (fun K9 hK9=>?_)
   go_simp
   refine hK9.out _ _ ⟨u1,u2,u3⟩ (fun hSS=>?_)
   try simp only[Act.put,zA,zB,zC]
   refine Dn (NoPanic.normal ?_)
   clear hSS
   go_wp2
   go_end0
   exact FIN.out
  ·go_simp
   refine hK9.out _ _ ⟨r0,r1⟩ (fun hSS=>?_)
   try simp only[Act.put,zA,zB,zC]
   refine Ri 4 rfl (fun K9 hK9=>?_)
   go_simp
   refine hK9.out _ _ hSS (fun hSS=>?_)
   try simp only[Act.put,zA,zB,zC]
   refine Ri 10 rfl (fun K9 hK9=>?_)
   refine step_append_lies _ (by rfl) _ _ _ (by rfl) 0 253 i219 .nilIface 1 16 Tryz.underlying133 hi9 hz9 hs9 hb9 rfl (by decide) _ ns _ (by rfl) (by exact HRowQ.out) ⟨wq.heap.size,0,none⟩ 1 1 [.iface 209 (.agg #[.int .i64 (y:Int),.slice ba bn bc,.int .i64 mk])] (by rfl) (by rfl) (by exact news1 wq _ _) (by intro u hu;simp at hu;subst hu;rfl) (by decide) (by unfold maxLen;omega) (by omega) (Nat.zero_le _) (wq.heap.size+1) (by simp) ?_
   intro g4 cap4 w6 ho4 hg4 hlie4 _
   obtain⟨y2,yf,yS,yT,hF⟩:=HN6.out w6 g4 cap4 ho4 hg4 hlie4
   have HF:=hid hF
   clear ho4 hg4 hlie4 hF HN6
   dsimp [Act.put]
   refine hK9.out _ _ yS (fun hSS=>?_)
   try simp only[List.setIfInBounds_toArray,List.set_cons_zero,List.set_cons_succ]
   refine Ti 11 rfl ?_
   refine Ti 12 rfl ?_
   try simp only[Act.put,zA,zB,zC]
   refine Ri 13 rfl (fun K9 hK9=>?_)
   go_simp
   refine hK9.out _ _ yT (fun hSS=>?_)
   try simp only[Act.put,zA,zB,zC]
   refine Dn (NoPanic.normal ?_)
   clear hSS
   obtain⟨wz,hwz⟩:∃wz,wz=w6.setCell ⟨x,2,none⟩ (Value.slice (some ⟨g4,0,none⟩) (ns+1) cap4):=⟨_,rfl⟩
   have HF7:=hid (HF.out _ rfl)
   rw[<- hwz]at HF7
   go_wp2_with fail
   rw[<- hwz]
   clear hwz HF yS yT
   obtain⟨zx,z0,z1,wU,hrun,u1,u2,u3,hFin⟩:=HF7.out
   have FIN:=hid hFin
   clear hFin HF7 y2 yf s0 s1q x2q x2D r0 r1 HRowQ hi9 hz9 hs9 hb9 hxq
   go_wp2_with fail
   refine wp_region_noPanic ?_
   refine Gz (S:=fun w'=>w'.cell? ⟨x,1,none⟩=some (.map (some m))/\w'.cell? ⟨nw,0,none⟩=some (.slice (some ⟨g,0,none⟩) 512 cp)/\w'.cell? ⟨nw,1,none⟩=some (.int .i64 (M:Int))) ⟨zx,z0,z1⟩ (fun hSS=>?_)
   refine Ti 0 rfl ?_
   refine Ti 1 rfl ?_
   try simp only[Act.put,zA,zB,zC]
   refine Ti 2 rfl ?_
   refine Ti 3 rfl ?_
   refine Ti 4 rfl ?_
   refine Ti 5 rfl ?_
   try simp only[Act.put,zA,zB,zC]
   refine Ri 6 rfl (fun K9 hK9=>?_)
   go_simp
   refine hK9.out _ _ ⟨u1,u2,u3⟩ (fun hSS=>?_)
   try simp only[Act.put,zA,zB,zC]
   refine Dn (NoPanic.normal ?_)
   clear hSS
   go_wp2
   go_end0
   exact FIN.out
open Go.RowKit Go.Deep
def stepV (s:Sp):Value:=match s.2 with
 | none=>.iface 207 (.int .i64 (s.1:Int))
 | some r=>.iface 209 (.agg #[.int .i64 (s.1:Int),.slice (some ⟨r.1,0,none⟩) 512 r.2.1,.int .i64 r.2.2])
open Go.RowKit Go.Deep Go.Shelf
attribute [local go_sem] Oper.semAt_some
end Go.Proofs.YtlefjidbpjkhlaaGreat
