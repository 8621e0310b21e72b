import Derived.Test.YthfojpcibnfmgaaGreatV21
import Derived.Test.YthfojpcibnfmgaaGreatV11
set_option maxRecDepth 100000
set_option maxHeartbeats 16000000
namespace Go.Proofs.YthfojpcibnfmgaaGreat
variable {Bs M j k m mc mg n nb ns p sb x:Nat}
variable {W W2 w:World}
variable {sa:Option Addr}
variable {ss:List Sp}
variable {xsm:List Value}
open Go.RowKit Go.Deep Go.Shelf
attribute [local go_sem] Oper.semAt_some
def undoN {nb:Nat} (pre:List ({ s:Sp // s.1<nb }×Nat)) (a:Nat->Option Wr):Nat->Option Wr:=pre.foldl (fun a q=>back1 q.1.1 a) a
theorem undo_cons(s:Sp)(ss:List Sp)(a:Nat->Option Wr):undo (s :: ss) a=back1 s (undo ss a):=by
 funext y
 unfold back1
 show (match (s :: ss).find? (fun s=>s.1 == y) with | some s=>s.2 | none=>a y)=_
 rw[List.find?_cons]
 by_cases e:s.1=y
 ·simp[e]
 ·have h1:(s.1 == y)=false:=by simpa using e
  have h2:¬y=s.1:=fun q=>e q.symm
  rw[h1,if_neg h2]
  rfl
theorem undoN_all(ss:List { s:Sp // s.1<nb })(a:Nat->Option Wr):undoN (bwd ss ss.length) a=undo (ss.map (fun s=>s.1)) a:=by
 have h1:bwd ss ss.length=ss.zipIdx.reverse:=by
  unfold bwd
  rw[List.take_of_length_le (by simp)]
 unfold undoN
 rw[h1,List.foldl_reverse]
 have h2:∀l:List ({ s:Sp // s.1<nb }×Nat),l.foldr (fun q a=>back1 q.1.1 a) a=undo ((l.map Prod.fst).map (fun s=>s.1)) a:=by
  intro l
  induction l with
  | nil=>rfl
  | cons q l ih=>rw[List.foldr_cons,ih];exact (undo_cons _ _ _).symm
 rw[h2,List.zipIdx_map_fst]
def BackI (nb m n:Nat) (a:Nat->Option Wr) (W2:World) (pre:List ({ s:Sp // s.1<nb }×Nat)) (W:World):Prop :=
 ∃n' D',n'<=n+pre.length/\W.ownsMap Tryz.prog 3 wrElem m n' D'/\AMx nb D' (undoN pre a)/\But (fun k=>k=m) W2 W
theorem backI_own{a:Nat->Option Wr}(hm:m<W2.heap.size):OwnFrom W2.heap.size (BackI nb m n a W2):=by
 rintro s W W' row ⟨n',D',h1,h2,h3,h4⟩ hg hr
 have hb:But (fun k=>W2.heap.size<=k) W W':=(But.refl _ W).of_grown hg (fun k e _=>(hr k e).1)
 exact⟨n',D',h1,mapW_keep h2 (hb.block m h2.lt (by omega)),h3,h4.comp hb (fun k hk q=>by omega)⟩
theorem kp2_put(h1:sb<W2.heap.size)(h2:Bs<W2.heap.size)(W:World)(l:Nat)(o o':Obj)(hl:W2.heap.size<=l)(_h:W.heap[l]?=some o)(_h1:o.isCells=false)(_h2:o.isWalk=false):Kp2 sb Bs W (W.putObj l o'):=by
 have hb:But (fun k=>k=l) W (W.putObj l o'):=(But.refl _ W).of_grown (grownBy_putObj' W l o') (fun k e _=>by cases e;rfl)
 exact⟨hb.size,fun k hk e=>hb.block k hk (by omega)⟩
theorem back_round{n' n3:Nat}{a:Nat->Option Wr}{W3:World}{pre:List ({ s:Sp // s.1<nb }×Nat)}{q:{ s:Sp // s.1<nb }×Nat}{D3:DataW Wr}(h1:n'<=n+pre.length)(h2:But (fun k=>k=m) W2 W)(r1:n3<=n'+1)(r2:W3.ownsMap Tryz.prog 3 wrElem m n3 D3)(r3:AMx nb D3 (back1 q.1.1 (undoN pre a)))(r4:But (fun k=>k=m) W W3)(hm:m<W2.heap.size)(hs:sb≠m)(hB:Bs≠m) :
  KeepsFrom W2.heap.size W W3/\Kp2 sb Bs W W3/\BackI nb m n a W2 (pre++[q]) W3:=by
 refine⟨⟨r4.size,fun k o hk ho _=>(r4.block k (Array.getElem?_eq_some_iff.1 ho).1 (by omega)).trans ho⟩,⟨r4.size,fun k hk e=>r4.block k hk (by rcases e with rfl | rfl <;> assumption)⟩,n3,D3,by simp;omega,r2,?_,h2.comp r4 (fun _ _ q=>q)⟩
 unfold undoN at r3 ⊢
 rw[List.foldl_append]
 exact r3
theorem back_end {cap:Nat} {Dm:DataW Wr} {a:Nat->Option Wr} {PO:Ending->World->Prop} {ssN:List { s:Sp // s.1<nb }} (hX:Xb w x j m (.slice sa ns cap) (.slice (some ⟨mg,0,none⟩) M mc)) (hr:w.ownsRow 0 176 1 (.slice sa ns cap) ns (ss.map stepV)) (hs:p<=ns/\ns=ss.length/\ssN.map (fun s=>s.1)=ss.drop p) (hm:w.ownsMap Tryz.prog 3 wrElem m n Dm) (hmr:w.ownsRow 0 3 1 (.slice (some ⟨mg,0,none⟩) M mc) M xsm) (hn2:n+ns<=1073741823) (hk:k<M) (hW:Below w.heap.size w W2) (hlw:w.heap.size<W2.heap.size) (cbx:W2.cell? ⟨w.heap.size,0,none⟩=some (.pointer (some ⟨x,0,none⟩)))
  (hPO:∀w',(∃sv' n' D',Xb w' x j m sv' (Value.slice (some ⟨mg,0,none⟩) (k+1) mc)/\w'.ownsRow 0 176 1 sv' p ((ss.take p).map stepV)/\w'.ownsRow 0 3 1 (Value.slice (some ⟨mg,0,none⟩) (k+1) mc) (k+1) (xsm.take (k+1))/\n'<=n+(ns-p)/\w'.ownsMap Tryz.prog 3 wrElem m n' D'/\AMx nb D' (undo (ss.drop p) a)/\(∀q,sv'.ownBlock=some q->(Value.slice sa ns cap).ownBlock=some q)/\But (fun q=>q=m\/q=x\/(Value.slice sa ns cap).ownBlock=some q) w w')->PO (.returned (.tuple #[])) w') :
  ∀W ys,BackI nb m n a W2 ys W->ys=bwd ssN (ns-p)->W.cell? ⟨w.heap.size,0,none⟩=some (.pointer (some ⟨x,0,none⟩))/\W.cell? ⟨x,2,none⟩=some (.slice sa ns cap) /\
   Calls Tryz.prog 98 #[.slice sa ns cap,.int .i64 (p:Int),.int .i64 (ns:Int)] W.drew fun e wd=>e=.returned (.slice sa p cap)/\wd.cell? ⟨w.heap.size,0,none⟩=some (.pointer (some ⟨x,0,none⟩))/\wd.cell? ⟨x,2,none⟩=some (.slice sa ns cap)/\wd.frozen? ⟨x,2,none⟩=false/\(wd.setCell ⟨x,2,none⟩ (Value.slice sa p cap)).cell? ⟨w.heap.size,0,none⟩=some (.pointer (some ⟨x,0,none⟩)) /\
    ∀wz,wz=wd.setCell ⟨x,2,none⟩ (Value.slice sa p cap)->wz.cell? ⟨w.heap.size,0,none⟩=some (.pointer (some ⟨x,0,none⟩))/\wz.cell? ⟨x,3,none⟩=some (.slice (some ⟨mg,0,none⟩) M mc)/\wz.frozen? ⟨x,3,none⟩=false/\(wz.setCell ⟨x,3,none⟩ (Value.slice (some ⟨mg,0,none⟩) (k+1) mc)).drew.cell? ⟨w.heap.size,0,none⟩=some (.pointer (some ⟨x,0,none⟩)) /\
     ∀D,W2.heap.size<=D->W.heap[D]?=some (.deferred (some []))->(wz.setCell ⟨x,3,none⟩ (Value.slice (some ⟨mg,0,none⟩) (k+1) mc)).drew.heap[D]?=some (.deferred (some []))/\PO (.returned (.tuple #[])) ((wz.setCell ⟨x,3,none⟩ (Value.slice (some ⟨mg,0,none⟩) (k+1) mc)).drew.putObj D (.deferred none)):=by
 rintro W ys ⟨n',D',h1,h2,h3,h4⟩ rfl
 obtain⟨hpn,hnl,hN⟩:=hs
 have hxl:=hX.lt
 have hml:=hm.lt
 have hxm:=mapW_ne hm hX
 have s4:=h4.size
 have hX2:Xb W2 x j m (.slice sa ns cap) (.slice (some ⟨mg,0,none⟩) M mc):=hX.keep (hW.block x hxl)
 have hXW:Xb W x j m (.slice sa ns cap) (.slice (some ⟨mg,0,none⟩) M mc):=hX2.keep (h4.block x (by omega) hxm)
 have hrm:∀q,(Value.slice sa ns cap).ownBlock=some q->q<w.heap.size/\q≠m/\q≠x:=fun q e=>⟨(World.ownsRow.lt hr q e).2,mapW_row hm hr e,row_ne_x hr hX (by decide) e⟩
 have hrW:W.ownsRow 0 176 1 (.slice sa ns cap) ns (ss.map stepV):=owns_keep hr (fun q e=>((h4.block q (by have:=(hrm q e).1;omega) (hrm q e).2.1).trans (hW.block q (hrm q e).1)))
 have hmgl:=(World.ownsRow.lt hmr mg rfl).2
 have hmgm:mg≠m:=mapW_row hm hmr rfl
 have hmgx:mg≠x:=row_ne_x hmr hX (by decide) rfl
 have hmrW:W.ownsRow 0 3 1 (.slice (some ⟨mg,0,none⟩) M mc) M xsm:=owns_keep hmr (fun q e=>by
  have:mg=q:=by simpa [Value.ownBlock] using e
  subst this
  exact (h4.block mg (by omega) hmgm).trans (hW.block mg hmgl))
 have hmgs:∀q,(Value.slice sa ns cap).ownBlock=some q->q≠mg:=fun q e e2=>by
  subst e2
  obtain⟨cur,c1,_⟩:=row_cells hmr
  rcases hr.2 with ⟨q1,_⟩ | ⟨g,cap',cur',q1,_,c2,_⟩
  ·rw[q1]at e;simp[Value.ownBlock]at e
  ·rw[q1]at e
   have:g=q:=by simpa [Value.ownBlock] using e
   subst this
   rw[c1]at c2
   injection c2 with c2
   injection c2 with _ c2
   exact absurd c2 (by decide)
 have cb:W.cell? ⟨w.heap.size,0,none⟩=some (.pointer (some ⟨x,0,none⟩)):=(h4.cell (p:=⟨w.heap.size,0,none⟩) hlw (by show ¬w.heap.size=m;omega)).trans cbx
 have c2:=hXW.cell 2
 simp at c2
 refine⟨cb,c2,?_⟩
 have HDel:Calls Tryz.prog 98 #[.slice sa ns cap,.int .i64 (p:Int),.int .i64 (ns:Int)] W.drew fun e wd=>e=.returned (.slice sa p cap)/\wd.ownsRow 0 176 1 (.slice sa p cap) p ((ss.take p).map stepV)/\(∀q,(Value.slice sa p cap).ownBlock=some q->(Value.slice sa ns cap).ownBlock=some q)/\But (fun q=>(Value.slice sa ns cap).ownBlock=some q) W wd:=by
  rcases Nat.lt_or_ge p ns with e | e
  ·have hsome:∃g,sa=some ⟨g,0,none⟩:=by
    rcases hr.2 with ⟨q1,q2⟩ | ⟨g,cap',cur',q1,_⟩
    ·omega
    ·injection q1 with q1;exact⟨g,q1⟩
   obtain⟨g,rfl⟩:=hsome
   refine Calls.mono (delete_raw (w:=W.drew) (owns_keep hrW (fun _ _=>rfl)) e) ?_
   rintro e2 wd ⟨rfl,q1,q2⟩
   refine⟨rfl,?_,fun q e=>e,?_⟩
   ·rw[List.map_take];exact q1
   ·exact (But.of_below (Below.refl W.heap.size W).drew (X:=fun q=>(Value.slice (some ⟨g,0,none⟩) ns cap).ownBlock=some q)).comp q2 (fun q _ e=>by rw[e];rfl)
  ·obtain rfl:p=ns:=by omega
   have hnc:p<=cap:=by
    rcases hr.2 with ⟨q1,q2⟩ | ⟨g,cap',cur',q1,_,_,q2,_⟩
    ·omega
    ·injection q1 with _ _ q1;omega
   refine Calls.mono (delete_same sa p cap hnc W.drew) ?_
   rintro e2 wd ⟨rfl,rfl⟩
   refine⟨rfl,?_,fun q e=>e,But.of_below (Below.refl W.heap.size W).drew⟩
   rw[List.take_of_length_le (by omega)]
   exact owns_keep hrW (fun _ _=>rfl)
 refine Calls.mono HDel ?_
 rintro e wd ⟨rfl,q1,q2,q3⟩
 have sd:=q3.size
 have hXd:Xb wd x j m (.slice sa ns cap) (.slice (some ⟨mg,0,none⟩) M mc):=hXW.keep (q3.block x hXW.lt (fun e=>(hrm x e).2.2 rfl))
 have hwn:∀q,(Value.slice sa ns cap).ownBlock=some q->q≠w.heap.size:=fun q e=>by have:=(hrm q e).1;omega
 have cd:wd.cell? ⟨w.heap.size,0,none⟩=some (.pointer (some ⟨x,0,none⟩)):=(q3.cell (p:=⟨w.heap.size,0,none⟩) (by show w.heap.size<_;omega) (fun e=>hwn _ e rfl)).trans cb
 have bz:But (fun q=>q=x) wd (wd.setCell ⟨x,2,none⟩ (Value.slice sa p cap)):=(But.refl (fun q=>q=x) wd).setCell (p:=⟨x,2,none⟩) rfl _
 have hXz:=hXd.set2 (Value.slice sa p cap)
 have d2:=hXd.cell 2
 simp at d2
 have hwx:¬w.heap.size=x:=by omega
 have cz:=(bz.cell (p:=⟨w.heap.size,0,none⟩) (by show w.heap.size<_;omega) hwx).trans cd
 refine⟨rfl,cd,d2,hXd.frozen 2,cz,?_⟩
 rintro wz rfl
 have e3:=hXz.cell 3
 simp at e3
 have bf:But (fun q=>q=x) (wd.setCell ⟨x,2,none⟩ (Value.slice sa p cap)) ((wd.setCell ⟨x,2,none⟩ (Value.slice sa p cap)).setCell ⟨x,3,none⟩ (Value.slice (some ⟨mg,0,none⟩) (k+1) mc)).drew:=((But.refl (fun q=>q=x) (wd.setCell ⟨x,2,none⟩ (Value.slice sa p cap))).setCell (p:=⟨x,3,none⟩) rfl _).drew
 have sz:=bz.size
 refine⟨cz,e3,hXz.frozen 3,(bf.cell (p:=⟨w.heap.size,0,none⟩) (by show w.heap.size<_;omega) hwx).trans cz,fun D hD hDk=>?_⟩
 generalize hwf:((wd.setCell ⟨x,2,none⟩ (Value.slice sa p cap)).setCell ⟨x,3,none⟩ (Value.slice (some ⟨mg,0,none⟩) (k+1) mc)).drew=wf at bf
 have hXf:Xb wf x j m (Value.slice sa p cap) (Value.slice (some ⟨mg,0,none⟩) (k+1) mc):=by rw[<- hwf];exact hXz.set3 _
 have hDl:D<W.heap.size:=(Array.getElem?_eq_some_iff.1 hDk).1
 have sf:=bf.size
 have hsD:∀q,(Value.slice sa ns cap).ownBlock=some q->q≠D:=fun q e=>by have:=(hrm q e).1;omega
 have hDf:wf.heap[D]?=some (.deferred (some [])):=(bf.block D (by omega) (by omega)).trans ((bz.block D (by omega) (by omega)).trans ((q3.block D hDl (fun e=>hsD _ e rfl)).trans hDk))
 refine⟨hDf,hPO _ ?_⟩
 have bD:But (fun q=>q=D) wf (wf.putObj D (.deferred none)):=(But.refl _ wf).of_grown (grownBy_putObj' wf D _) (fun q e _=>by cases e;rfl)
 have hall:But (fun q=>q=m\/q=x\/(Value.slice sa ns cap).ownBlock=some q) w (wf.putObj D (.deferred none)):=((((But.of_below hW (X:=fun q=>q=m\/q=x\/(Value.slice sa ns cap).ownBlock=some q)).comp h4 (fun _ _ q=>.inl q)).comp q3 (fun _ _ q=>.inr (.inr q))).comp bz (fun _ _ q=>.inr (.inl q))).comp bf (fun _ _ q=>.inr (.inl q)) |>.comp bD (fun q hq e=>by omega)
 have kfd:∀q,q<w.heap.size->q≠x->(wf.putObj D (.deferred none)).heap[q]?=wd.heap[q]?:=fun q hq hx=>(bD.block q (by omega) (by omega)).trans ((bf.block q (by omega) hx).trans (bz.block q (by omega) hx))
 have hmd:wd.ownsMap Tryz.prog 3 wrElem m n' D':=mapW_keep h2 (q3.block m h2.lt (fun e=>(hrm m e).2.1 rfl))
 refine⟨_,n',D',hXf.keep (bD.block x hXf.lt (by omega)),owns_keep q1 (fun q e=>kfd q (hrm q (q2 q e)).1 (hrm q (q2 q e)).2.2),?_,?_,mapW_keep hmd (kfd m hml (fun e=>hxm e.symm)),?_,q2,hall⟩
 ·refine row_take (owns_keep hmrW (fun q e=>?_)) hk
  have:mg=q:=by simpa [Value.ownBlock] using e
  subst this
  exact (kfd mg hmgl hmgx).trans (q3.block mg (by omega) (fun e=>hmgs mg e rfl))
 ·have hl:ssN.length=ns-p:=by
   have:=congrArg List.length hN
   simp at this
   omega
  rw[bwd_len _ (by omega)]at h1
  exact h1
 ·have hl:ssN.length=ns-p:=by
   have:=congrArg List.length hN
   simp at this
   omega
  rw[<- hN,<- undoN_all,hl]
  exact h3
theorem back_raw{cap:Nat}{Dm:DataW Wr}{a:Nat->Option Wr}(hX:Xb w x j m (.slice sa ns cap) (.slice (some ⟨mg,0,none⟩) M mc))(hr:w.ownsRow 0 176 1 (.slice sa ns cap) ns (ss.map stepV))(hm:w.ownsMap Tryz.prog 3 wrElem m n Dm)(hAm:AMx nb Dm a)(hmr:w.ownsRow 0 3 1 (.slice (some ⟨mg,0,none⟩) M mc) M xsm)(hn2:n+ns<=1073741823)(hk:k<M)(hM:M<=1073741823)(hnl:ns=ss.length)(hpn:p<=ns)(hmp:xsm[k]?=some (.int .i64 (p:Int)))(hnb:nb<=524288)(hsn:∀s∈ss,s.1<nb) :
  Calls Tryz.prog 67 #[.pointer (some ⟨x,0,none⟩),.int .i64 (k:Int)] w fun e w'=>e=.returned (.tuple #[])/\∃sv' n' D',Xb w' x j m sv' (Value.slice (some ⟨mg,0,none⟩) (k+1) mc)/\w'.ownsRow 0 176 1 sv' p ((ss.take p).map stepV)/\w'.ownsRow 0 3 1 (Value.slice (some ⟨mg,0,none⟩) (k+1) mc) (k+1) (xsm.take (k+1))/\n'<=n+(ns-p)/\w'.ownsMap Tryz.prog 3 wrElem m n' D'/\AMx nb D' (undo (ss.drop p) a)/\(∀q,sv'.ownBlock=some q->(Value.slice sa ns cap).ownBlock=some q)/\But (fun q=>q=m\/q=x\/(Value.slice sa ns cap).ownBlock=some q) w w':=by
 obtain⟨PO,hPOe⟩:∃PO:Ending->World->Prop,PO=fun e w'=>e=.returned (.tuple #[])/\∃sv' n' D',Xb w' x j m sv' (Value.slice (some ⟨mg,0,none⟩) (k+1) mc)/\w'.ownsRow 0 176 1 sv' p ((ss.take p).map stepV)/\w'.ownsRow 0 3 1 (Value.slice (some ⟨mg,0,none⟩) (k+1) mc) (k+1) (xsm.take (k+1))/\n'<=n+(ns-p)/\w'.ownsMap Tryz.prog 3 wrElem m n' D'/\AMx nb D' (undo (ss.drop p) a)/\(∀q,sv'.ownBlock=some q->(Value.slice sa ns cap).ownBlock=some q)/\But (fun q=>q=m\/q=x\/(Value.slice sa ns cap).ownBlock=some q) w w':=⟨_,rfl⟩
 rw[<- hPOe]
 have hPO:∀w',(∃sv' n' D',Xb w' x j m sv' (Value.slice (some ⟨mg,0,none⟩) (k+1) mc)/\w'.ownsRow 0 176 1 sv' p ((ss.take p).map stepV)/\w'.ownsRow 0 3 1 (Value.slice (some ⟨mg,0,none⟩) (k+1) mc) (k+1) (xsm.take (k+1))/\n'<=n+(ns-p)/\w'.ownsMap Tryz.prog 3 wrElem m n' D'/\AMx nb D' (undo (ss.drop p) a)/\(∀q,sv'.ownBlock=some q->(Value.slice sa ns cap).ownBlock=some q)/\But (fun q=>q=m\/q=x\/(Value.slice sa ns cap).ownBlock=some q) w w')->PO (.returned (.tuple #[])) w':=fun w' h=>by rw[hPOe];exact⟨rfl,h⟩
 clear hPOe
 obtain⟨ssN,hNmap⟩:∃ssN:List { s:Sp // s.1<nb },ssN.map (fun s=>s.1)=ss.drop p:=⟨(ss.drop p).attachWith (fun s=>s.1<nb) (fun s h=>hsn s (List.mem_of_mem_drop h)),by simp only[List.map_attachWith,List.attach_map_subtype_val]⟩
 have hlenN':ssN.length=ns-p:=by
  have:=congrArg List.length hNmap
  simp at this
  omega
 have hs:p<=ns/\ns=ss.length/\ssN.map (fun s=>s.1)=ss.drop p:=⟨hpn,hnl,hNmap⟩
 have hmgl:=(World.ownsRow.lt hmr mg rfl).2
 obtain⟨curm,hc1,hc2,hc3,hc4,hc5⟩:=row_cells hmr
 have hmk:w.cell? ⟨mg,k,none⟩=some (.int .i64 (p:Int)):=by
  have:curm[k]?=some (.int .i64 (p:Int)):=by
   rw[<- hc5,List.getElem?_take_of_lt hk,Array.getElem?_toList]at hmp
   exact hmp
  simp[World.cell?,hc1,this]
 have hmc:¬mc=0:=by omega
 obtain⟨k1,hk1⟩:∃k1,k1=k+1:=⟨_,rfl⟩
 have hmc2:k1<=mc:=by omega
 have hwk:IntKind.i64.wrap ((k:Int)+1)=(k1:Int):=by rw[IntKind.wrap_i64,hk1];omega
 have hmx:mc<=9223372036854775807:=by unfold maxLen at hc4;omega
 clear hc1 hc2 hc4 hc5 hmp hNmap hsn
 rcases hr.2 with ⟨hv,hns0⟩ | ⟨sb,cap',cur,hv,_,hsg,hnc,hcm,hcs,hct⟩
 ·obtain⟨rfl,rfl,rfl⟩:sa=none/\ns=0/\cap=0:=by injection hv with e1 e2 e3;exact⟨e1,e2,e3⟩
  obtain rfl:p=0:=by omega
  obtain⟨sb,hsb⟩:∃sb,sb=x:=⟨_,rfl⟩
  have hsbm:sb≠m:=by rw[hsb];exact mapW_ne hm hX
  have hsl:sb<w.heap.size:=by rw[hsb];exact hX.lt
  have hcN:∀W,Below w.heap.size w W->ssN=[]\/∃off,(none:Option Addr)=some ⟨sb,off,none⟩/\sb<W.heap.size/\∀(i:Nat) (s:{ s:Sp // s.1<nb }),ssN[i]?=some s->W.cell? ⟨sb,off+i,none⟩=some (stepV s.1):=fun W _=>.inl (List.length_eq_zero_iff.1 (by omega))
  have hlenN:0=ssN.length:=hlenN'.symm
  have e0:((0:Nat):Int)=0:=rfl
  rw[e0]at hmk
  clear hv hlenN' hsb hns0
  obtain⟨w1,hw1⟩:∃w1,w1=w.alloc (.cells #[.pointer (some ⟨x,0,none⟩)] 122):=⟨_,rfl⟩
  have b1:Below w.heap.size w w1:=by rw[hw1];exact (Below.refl _ _).alloc (Nat.le_refl _) _
  have z1:w1.heap.size=w.heap.size+1:=by rw[hw1];simp
  have hxl:=hX.lt
  have y2:=(b1.cell (p:=⟨x,2,none⟩) hxl).trans (hX.cell 2)
  have y3:=(b1.cell (p:=⟨x,3,none⟩) hxl).trans (hX.cell 3)
  simp at y2 y3
  have y4:=(b1.cell (p:=⟨mg,k,none⟩) hmgl).trans hmk
  have yb:w1.cell? ⟨w.heap.size,0,none⟩=some (.pointer (some ⟨x,0,none⟩)):=by rw[hw1];exact cell_new rfl 0 _ rfl
  obtain⟨W2,hW2⟩:∃W2,W2=w1.alloc (.cells #[.slice none 0 0] 158):=⟨_,rfl⟩
  have b2:Below w1.heap.size w1 W2:=by rw[hW2];exact (Below.refl _ _).alloc (Nat.le_refl _) _
  have z2:W2.heap.size=w1.heap.size+1:=by rw[hW2];simp
  have cB:W2.cell? ⟨w1.heap.size,0,none⟩=some (.slice none 0 0):=by rw[hW2];exact cell_new rfl 0 _ rfl
  have hW:Below w.heap.size w W2:=b1.trans (b2.mono (by omega))
  have HEnd:=hid (back_end hX hr hs hm hmr hn2 hk hW (by omega) ((b2.cell (p:=⟨w.heap.size,0,none⟩) (by show w.heap.size<_;omega)).trans yb) hPO)
  rw[e0]at HEnd
  rw[<- hk1]at HEnd
  have HSeq:=hid (backward_stops Fence.wide 3 trivial rfl (by omega) w1.heap.size sb 0 0 none (fun s:{ s:Sp // s.1<nb }=>s.1) ssN hlenN (by omega) W2 (by omega) cB (hcN W2 hW))
  have HW1:=hid hw1
  have HW2:=hid hW2
  have Hm:Hid (W2.ownsMap Tryz.prog 3 wrElem m n Dm):=mapW_keep hm (hW.block m hm.lt)
  have hmW:m<W2.heap.size:=by have:=hm.lt;omega
  have hsb2:sb<W2.heap.size:=by omega
  have HX2:Hid (Xb W2 x j m (.slice none 0 0) (.slice (some ⟨mg,0,none⟩) M mc)):=hX.keep (hW.block x hxl)
  have HA:=hid hAm
  have yb2:W2.cell? ⟨w.heap.size,0,none⟩=some (.pointer (some ⟨x,0,none⟩)):=(b2.cell (p:=⟨w.heap.size,0,none⟩) (by show w.heap.size<_;omega)).trans yb
  have hwW:w.heap.size<W2.heap.size:=by omega
  have hmw:¬w.heap.size=m:=by have:=hm.lt;omega
  have hsm:sb≠m:=hsbm
  have hBm:w1.heap.size≠m:=by have:=hm.lt;omega
  have hBs2:w1.heap.size<W2.heap.size:=by omega
  have hN2:n+0<=1073741823:=by omega
  clear hw1 hW2 b1 b2 hW hX hr hs hm hmr hPO z1 z2 cB hcN hAm hmk hsbm hnl hlenN hk1
  refine (callsIn_wide (n:=5)).1 ?_
  refine callsIn_of_wp_marks Tryz.func67 rfl trivial ?_ rfl
  refine wpIn_wide.2 ?_
  simp only[Tryz.ntmps67,List.size_toArray,List.length_cons,List.length_nil,Nat.reduceAdd,Nat.reduceSub,Array.replicate_succ,Array.replicate_zero,List.push_toArray,List.append_toArray,List.nil_append,List.cons_append]
  go_upto_region 1 with fail
  rw[<- HW1.out]
  go_wp2_with fail
  refine Calls.mono (callsIn_wide.1 (backward_in Fence.wide 3 trivial rfl _ _ _ _)) ?_
  rintro e w2 ⟨rfl,hw2⟩
  go_wp2_with fail
  rw[<- HW2.out]
  clear hw2 HW2 HW1 y2 y3 y4 yb
  refine (wpIn_wide (n:=4)).1 ?_
  refine wpIn_rangeFunc_ownG (F:=Fence.wide) (n:=4) rfl (by omega) (gf:=124) (lb:=#[.pointer (some ⟨w1.heap.size,0,none⟩)]) rfl trivial (enters_of Tryz.func124 (by kernel_rfl) rfl)
   HSeq.out (fun h k=>h.trans k) (kp2_put hsb2 hBs2) (Below.refl _ _) (fun _=>rfl)
   (BackI nb m n a W2) (fun _ _ _=>False) (backI_own hmW) (fun _ _ _ _ _ h _ _=>h) ⟨n,Dm,Nat.le_refl _,Hm.out,HA.out,But.refl _ _⟩
   (fun q=>{ tmps:=#[.pointer (some ⟨x,0,none⟩),.int .i64 (k:Int),.pointer (some ⟨w.heap.size,0,none⟩),undef,.int .i64 0,undef,stepV q.1.1,.pointer (some ⟨x,0,none⟩),.pointer (some ⟨x,0,none⟩),.pointer (some ⟨x,3,none⟩),.slice (some ⟨mg,0,none⟩) M mc,.int .i64 (k:Int),.pointer (some ⟨mg,k,none⟩),.int .i64 0,.pointer (some ⟨x,0,none⟩),.pointer (some ⟨x,0,none⟩),.pointer (some ⟨x,2,none⟩),.slice none 0 0,.int .i64 0,.slice none 0 0,.func (.func 124) #[] #[.pointer (some ⟨w1.heap.size,0,none⟩)],.int .i64 ((q.2:Nat):Int),stepV q.1.1,undef,undef,undef,undef,undef,undef,undef,undef,undef,undef,undef,undef,undef,undef,undef,undef,undef,undef,undef,undef,undef,undef,undef,undef,undef,undef,undef],defers:=[] }) ?assign ?body ?done ?stop
  case assign=>
   intro l q W K hK
   gi_wp2
   exact hK
  case body=>
   rintro l pre q W ⟨n',D',hn',hm',hA',hb'⟩ hlt
   have cb:=(hb'.cell (p:=⟨w.heap.size,0,none⟩) hwW hmw).trans yb2
   have hXW:Xb W x j m (.slice none 0 0) (.slice (some ⟨mg,0,none⟩) M mc):=HX2.out.keep (hb'.block x HX2.out.lt (mapW_ne Hm.out HX2.out))
   have HT:=hid (fun nn:Nat=>CallsIn.inRound (n:=nn) l (callsIn_wide.2 (takeBack_any (nb:=nb) (a:=undoN pre a) q.1.1 hXW hm' hA' (by omega) q.1.2 hnb)))
   have HK:=hid (And.intro hn' (And.intro hb' hmW))
   clear hm' hA' hXW hn' hb' HSeq HEnd
   gi_wp2_with (refine⟨trivial,?_⟩;gi_at_call 97;refine (HT.out _).mono ?_;rintro e W3 ⟨rfl,⟨n3,D3,r1,r2,r3⟩,r4⟩)
   exact back_round HK.out.1 HK.out.2.1 r1 r2 r3 r4 hmW hsm hBm
  case done=>
   rintro D ys W hDl hS hI hDk
   obtain⟨cb,c2,HDel⟩:=HEnd.out W ys hI hS
   have HD:=hid HDel
   clear HSeq HEnd HDel hI hS Hm HX2 HA
   go_wp2_with fail
   refine wp_region_noPanic ?_
   refine Gz (S:=fun w'=>w'.cell? ⟨w.heap.size,0,none⟩=some (.pointer (some ⟨x,0,none⟩))) cb (fun hSS=>?_)
   refine Ti 0 rfl ?_
   refine Ti 1 rfl ?_
   refine Ti 2 rfl ?_
   refine Ti 3 rfl ?_
   try simp only[Act.put,zA,zB,zC]
   refine Ti 5 rfl ?_
   refine Ti 6 rfl ?_
   refine Ti 7 rfl ?_
   refine Ti 8 rfl ?_
   try simp only[Act.put,zA,zB,zC]
   refine Rr 4 9 rfl rfl (fun K9 hK9=>?_) (fun K9 hK9=>?_)
   ·go_simp
    refine hK9.out _ _ hSS (fun hSS=>?_)
    try simp only[Act.put,zA,zB,zC]
    refine Ri 9 rfl (fun K9 hK9=>?_)
    go_simp
    refine hK9.out _ _ hSS (fun hSS=>?_)
    try simp only[Act.put,zA,zB,zC]
    refine Ti 10 rfl ?_
    try simp only[Act.put,zA,zB,zC]
    refine Ri 11 rfl (fun K9 hK9=>?_)
    go_simp
    go_at_call 98
    refine Calls.mono HD.out ?_
    rintro e wd ⟨rfl,d0,d2,df,dS,hF⟩
    have HF:=hid hF
    clear HD hF
    refine hK9.out _ _ d0 (fun hSS=>?_)
    try simp only[Act.put,zA,zB,zC]
    refine Ti 12 rfl ?_
    try simp only[Act.put,zA,zB,zC]
    refine Ti 13 rfl ?_
    try simp only[Act.put,zA,zB,zC]
    refine Ri 14 rfl (fun K9 hK9=>?_)
    go_simp
    refine hK9.out _ _ dS (fun hSS=>?_)
    try simp only[Act.put,zA,zB,zC]
    refine Dn (NoPanic.normal ?_)
    clear hSS
    go_wp2_with fail
    obtain⟨wz,hwz⟩:∃wz,wz=wd.setCell ⟨x,2,none⟩ (.slice none 0 0):=⟨_,rfl⟩
    rw[<- hwz]
    obtain⟨e0,e3,ef,eS,hG⟩:=HF.out wz hwz
    have HG:=hid hG
    clear hG HF hwz d0 d2 df dS
    refine wp_region_noPanic ?_
    refine Gz (S:=fun w'=>w'.cell? ⟨w.heap.size,0,none⟩=some (.pointer (some ⟨x,0,none⟩))) e0 (fun hSS=>?_)
    refine Ti 0 rfl ?_
    refine Ti 1 rfl ?_
    refine Ti 2 rfl ?_
    refine Ti 3 rfl ?_
    try simp only[Act.put,zA,zB,zC]
    refine Ti 5 rfl ?_
    refine Ti 6 rfl ?_
    try simp only[Act.put,zA,zB,zC]
    refine Ri 4 rfl (fun K9 hK9=>?_)
    go_simp
    refine hK9.out _ _ hSS (fun hSS=>?_)
    try simp only[Act.put,zA,zB,zC]
    refine Ti 7 rfl ?_
    refine Ti 8 rfl ?_
    refine Ti 9 rfl ?_
    try simp only[Act.put,zA,zB,zC]
    refine Ri 10 rfl (fun K9 hK9=>?_)
    go_simp
    refine hK9.out _ _ eS (fun hSS=>?_)
    try simp only[Act.put,zA,zB,zC]
    refine Dn (NoPanic.normal ?_)
    clear hSS
    go_wp2_with fail
    obtain⟨hK,hP⟩:=HG.out D hDl hDk
    refine⟨by simp,.inl ⟨_,_,rfl,run_takeDeferred hK,?_⟩⟩
    exact⟨_,results_none rfl _ _ _,hP⟩
   ·go_simp
    refine hK9.out _ _ hSS (fun hSS=>?_)
    try simp only[Act.put,zA,zB,zC]
    refine Ti 10 rfl ?_
    try simp only[Act.put,zA,zB,zC]
    refine Ri 4 rfl (fun K9 hK9=>?_)
    go_simp
    refine hK9.out _ _ hSS (fun hSS=>?_)
    try simp only[Act.put,zA,zB,zC]
    refine Ri 11 rfl (fun K9 hK9=>?_)
    go_simp
    go_at_call 98
    refine Calls.mono HD.out ?_
    rintro e wd ⟨rfl,d0,d2,df,dS,hF⟩
    have HF:=hid hF
    clear HD hF
    refine hK9.out _ _ d0 (fun hSS=>?_)
    try simp only[Act.put,zA,zB,zC]
    refine Ti 12 rfl ?_
    try simp only[Act.put,zA,zB,zC]
    refine Ti 13 rfl ?_
    try simp only[Act.put,zA,zB,zC]
    refine Ri 14 rfl (fun K9 hK9=>?_)
    go_simp
    refine hK9.out _ _ dS (fun hSS=>?_)
    try simp only[Act.put,zA,zB,zC]
    refine Dn (NoPanic.normal ?_)
    clear hSS
    go_wp2_with fail
    obtain⟨wz,hwz⟩:∃wz,wz=wd.setCell ⟨x,2,none⟩ (.slice none 0 0):=⟨_,rfl⟩
    rw[<- hwz]
    obtain⟨e0,e3,ef,eS,hG⟩:=HF.out wz hwz
    have HG:=hid hG
    clear hG HF hwz d0 d2 df dS
    refine wp_region_noPanic ?_
    refine Gz (S:=fun w'=>w'.cell? ⟨w.heap.size,0,none⟩=some (.pointer (some ⟨x,0,none⟩))) e0 (fun hSS=>?_)
    refine Ti 0 rfl ?_
    refine Ti 1 rfl ?_
    refine Ti 2 rfl ?_
    refine Ti 3 rfl ?_
    try simp only[Act.put,zA,zB,zC]
    refine Ti 5 rfl ?_
    refine Ti 6 rfl ?_
    try simp only[Act.put,zA,zB,zC]
    refine Ri 4 rfl (fun K9 hK9=>?_)
    go_simp
    refine hK9.out _ _ hSS (fun hSS=>?_)
    try simp only[Act.put,zA,zB,zC]
    refine Ti 7 rfl ?_
    refine Ti 8 rfl ?_
    refine Ti 9 rfl ?_
    try simp only[Act.put,zA,zB,zC]
    refine Ri 10 rfl (fun K9 hK9=>?_)
    go_simp
    refine hK9.out _ _ eS (fun hSS=>?_)
    try simp only[Act.put,zA,zB,zC]
    refine Dn (NoPanic.normal ?_)
    clear hSS
    go_wp2_with fail
    obtain⟨hK,hP⟩:=HG.out D hDl hDk
    refine⟨by simp,.inl ⟨_,_,rfl,run_takeDeferred hK,?_⟩⟩
    exact⟨_,results_none rfl _ _ _,hP⟩
  case stop=>
   rintro D c pre W _ _ h _
   exact h.elim
 ·obtain⟨rfl,rfl⟩:sa=some ⟨sb,0,none⟩/\cap=cap':=by injection hv with e1 e2 e3;exact⟨e1,e3⟩
  have hsl:sb<w.heap.size:=(World.ownsRow.lt hr sb rfl).2
  have hsbm:sb≠m:=mapW_row hm hr rfl
  have hcx:cap<=9223372036854775807:=by unfold maxLen at hcm;omega
  obtain⟨A,hA,hcN⟩:∃A:Addr,(if cap=p then some (⟨sb,0,none⟩:Addr) else some ⟨sb,p,none⟩)=some A/\∀W,Below w.heap.size w W->ssN=[]\/∃off,some A=some ⟨sb,off,none⟩/\sb<W.heap.size/\∀(i:Nat) (s:{ s:Sp // s.1<nb }),ssN[i]?=some s->W.cell? ⟨sb,off+i,none⟩=some (stepV s.1):=by
   by_cases hcp:cap=p
   ·refine⟨⟨sb,0,none⟩,by simp[hcp],fun W _=>.inl (List.length_eq_zero_iff.1 (by omega))⟩
   ·refine⟨⟨sb,p,none⟩,by simp[hcp],fun W hW=>.inr ⟨p,rfl,by have:=hW.size;omega,fun i s hi=>(hW.cell (p:=⟨sb,p+i,none⟩) hsl).trans ?_⟩⟩
    have h1:(ss.drop p)[i]?=some s.1:=by rw[<- hs.2.2,List.getElem?_map,hi];rfl
    rw[List.getElem?_drop]at h1
    have h2:(ss.map stepV)[p+i]?=some (stepV s.1):=by rw[List.getElem?_map,h1];rfl
    have hlt:p+i<ns * 1:=by have:=(List.getElem?_eq_some_iff.1 h1).1;omega
    rw[<- hct,List.getElem?_take_of_lt hlt,Array.getElem?_toList]at h2
    simp[World.cell?,hsg,h2]
  have hlenN:ns-p=ssN.length:=hlenN'.symm
  clear hv hsg hcm hcs hct hlenN'
  obtain⟨w1,hw1⟩:∃w1,w1=w.alloc (.cells #[.pointer (some ⟨x,0,none⟩)] 122):=⟨_,rfl⟩
  have b1:Below w.heap.size w w1:=by rw[hw1];exact (Below.refl _ _).alloc (Nat.le_refl _) _
  have z1:w1.heap.size=w.heap.size+1:=by rw[hw1];simp
  have hxl:=hX.lt
  have y2:=(b1.cell (p:=⟨x,2,none⟩) hxl).trans (hX.cell 2)
  have y3:=(b1.cell (p:=⟨x,3,none⟩) hxl).trans (hX.cell 3)
  simp at y2 y3
  have y4:=(b1.cell (p:=⟨mg,k,none⟩) hmgl).trans hmk
  have yb:w1.cell? ⟨w.heap.size,0,none⟩=some (.pointer (some ⟨x,0,none⟩)):=by rw[hw1];exact cell_new rfl 0 _ rfl
  obtain⟨W2,hW2⟩:∃W2,W2=w1.alloc (.cells #[.slice (some A) (ns-p) (cap-p)] 158):=⟨_,rfl⟩
  have b2:Below w1.heap.size w1 W2:=by rw[hW2];exact (Below.refl _ _).alloc (Nat.le_refl _) _
  have z2:W2.heap.size=w1.heap.size+1:=by rw[hW2];simp
  have cB:W2.cell? ⟨w1.heap.size,0,none⟩=some (.slice (some A) (ns-p) (cap-p)):=by rw[hW2];exact cell_new rfl 0 _ rfl
  have hW:Below w.heap.size w W2:=b1.trans (b2.mono (by omega))
  have HEnd:=hid (back_end hX hr hs hm hmr hn2 hk hW (by omega) ((b2.cell (p:=⟨w.heap.size,0,none⟩) (by show w.heap.size<_;omega)).trans yb) hPO)
  rw[<- hk1]at HEnd
  have HSeq:=hid (backward_stops Fence.wide 3 trivial rfl (by omega) w1.heap.size sb (ns-p) (cap-p) (some A) (fun s:{ s:Sp // s.1<nb }=>s.1) ssN hlenN (by omega) W2 (by omega) cB (hcN W2 hW))
  have HW1:=hid hw1
  have HW2:=hid hW2
  have Hm:Hid (W2.ownsMap Tryz.prog 3 wrElem m n Dm):=mapW_keep hm (hW.block m hm.lt)
  have hmW:m<W2.heap.size:=by have:=hm.lt;omega
  have hsb2:sb<W2.heap.size:=by omega
  have HX2:Hid (Xb W2 x j m (.slice (some ⟨sb,0,none⟩) ns cap) (.slice (some ⟨mg,0,none⟩) M mc)):=hX.keep (hW.block x hxl)
  have HA:=hid hAm
  have yb2:W2.cell? ⟨w.heap.size,0,none⟩=some (.pointer (some ⟨x,0,none⟩)):=(b2.cell (p:=⟨w.heap.size,0,none⟩) (by show w.heap.size<_;omega)).trans yb
  have hwW:w.heap.size<W2.heap.size:=by omega
  have hmw:¬w.heap.size=m:=by have:=hm.lt;omega
  have hsm:sb≠m:=hsbm
  have hBm:w1.heap.size≠m:=by have:=hm.lt;omega
  have hBs2:w1.heap.size<W2.heap.size:=by omega
  have hN2:n+(ns-p)<=1073741823:=by omega
  clear hw1 hW2 b1 b2 hW hX hr hs hm hmr hPO z1 z2 cB hcN hAm hmk hsbm hnl hlenN hk1
  refine (callsIn_wide (n:=5)).1 ?_
  refine callsIn_of_wp_marks Tryz.func67 rfl trivial ?_ rfl
  refine wpIn_wide.2 ?_
  simp only[Tryz.ntmps67,List.size_toArray,List.length_cons,List.length_nil,Nat.reduceAdd,Nat.reduceSub,Array.replicate_succ,Array.replicate_zero,List.push_toArray,List.append_toArray,List.nil_append,List.cons_append]
  go_upto_region 1 with fail
  rw[<- HW1.out]
  go_wp2_with fail
  refine Calls.mono (callsIn_wide.1 (backward_in Fence.wide 3 trivial rfl _ _ _ _)) ?_
  rintro e w2 ⟨rfl,hw2⟩
  go_wp2_with fail
  rw[<- HW2.out]
  clear hw2 HW2 HW1 y2 y3 y4 yb
  refine (wpIn_wide (n:=4)).1 ?_
  refine wpIn_rangeFunc_ownG (F:=Fence.wide) (n:=4) rfl (by omega) (gf:=124) (lb:=#[.pointer (some ⟨w1.heap.size,0,none⟩)]) rfl trivial (enters_of Tryz.func124 (by kernel_rfl) rfl)
   HSeq.out (fun h k=>h.trans k) (kp2_put hsb2 hBs2) (Below.refl _ _) (fun _=>rfl)
   (BackI nb m n a W2) (fun _ _ _=>False) (backI_own hmW) (fun _ _ _ _ _ h _ _=>h) ⟨n,Dm,Nat.le_refl _,Hm.out,HA.out,But.refl _ _⟩
   (fun q=>{ tmps:=#[.pointer (some ⟨x,0,none⟩),.int .i64 (k:Int),.pointer (some ⟨w.heap.size,0,none⟩),undef,.int .i64 (p:Int),undef,stepV q.1.1,.pointer (some ⟨x,0,none⟩),.pointer (some ⟨x,0,none⟩),.pointer (some ⟨x,3,none⟩),.slice (some ⟨mg,0,none⟩) M mc,.int .i64 (k:Int),.pointer (some ⟨mg,k,none⟩),.int .i64 (p:Int),.pointer (some ⟨x,0,none⟩),.pointer (some ⟨x,0,none⟩),.pointer (some ⟨x,2,none⟩),.slice (some ⟨sb,0,none⟩) ns cap,.int .i64 (p:Int),.slice (some A) (ns-p) (cap-p),.func (.func 124) #[] #[.pointer (some ⟨w1.heap.size,0,none⟩)],.int .i64 ((q.2:Nat):Int),stepV q.1.1,undef,undef,undef,undef,undef,undef,undef,undef,undef,undef,undef,undef,undef,undef,undef,undef,undef,undef,undef,undef,undef,undef,undef,undef,undef,undef,undef],defers:=[] }) ?assign ?body ?done ?stop
  case assign=>
   intro l q W K hK
   gi_wp2
   exact hK
  case body=>
   rintro l pre q W ⟨n',D',hn',hm',hA',hb'⟩ hlt
   have cb:=(hb'.cell (p:=⟨w.heap.size,0,none⟩) hwW hmw).trans yb2
   have hXW:Xb W x j m (.slice (some ⟨sb,0,none⟩) ns cap) (.slice (some ⟨mg,0,none⟩) M mc):=HX2.out.keep (hb'.block x HX2.out.lt (mapW_ne Hm.out HX2.out))
   have HT:=hid (fun nn:Nat=>CallsIn.inRound (n:=nn) l (callsIn_wide.2 (takeBack_any (nb:=nb) (a:=undoN pre a) q.1.1 hXW hm' hA' (by omega) q.1.2 hnb)))
   have HK:=hid (And.intro hn' (And.intro hb' hmW))
   clear hm' hA' hXW hn' hb' HSeq HEnd
   gi_wp2_with (refine⟨trivial,?_⟩;gi_at_call 97;refine (HT.out _).mono ?_;rintro e W3 ⟨rfl,⟨n3,D3,r1,r2,r3⟩,r4⟩)
   exact back_round HK.out.1 HK.out.2.1 r1 r2 r3 r4 hmW hsm hBm
  case done=>
   rintro D ys W hDl hS hI hDk
   obtain⟨cb,c2,HDel⟩:=HEnd.out W ys hI hS
   have HD:=hid HDel
   clear HSeq HEnd HDel hI hS Hm HX2 HA
   go_wp2_with fail
   refine wp_region_noPanic ?_
   refine Gz (S:=fun w'=>w'.cell? ⟨w.heap.size,0,none⟩=some (.pointer (some ⟨x,0,none⟩))) cb (fun hSS=>?_)
   refine Ti 0 rfl ?_
   try simp only[Act.put,zA,zB,zC]
   refine Ti 1 rfl ?_
   refine Ti 2 rfl ?_
   refine Ti 3 rfl ?_
   refine Ti 5 rfl ?_
   try simp only[Act.put,zA,zB,zC]
   refine Ti 6 rfl ?_
   refine Ti 7 rfl ?_
   refine Ti 8 rfl ?_
   try simp only[Act.put,zA,zB,zC]
   refine Rr 4 9 rfl rfl (fun K9 hK9=>?_) (fun K9 hK9=>?_)
   ·go_simp
    refine hK9.out _ _ hSS (fun hSS=>?_)
    try simp only[Act.put,zA,zB,zC]
    refine Ri 9 rfl (fun K9 hK9=>?_)
    go_simp
    refine hK9.out _ _ hSS (fun hSS=>?_)
    try simp only[Act.put,zA,zB,zC]
    refine Ti 10 rfl ?_
    try simp only[Act.put,zA,zB,zC]
    refine Ri 11 rfl (fun K9 hK9=>?_)
    go_simp
    go_at_call 98
    refine Calls.mono HD.out ?_
    rintro e wd ⟨rfl,d0,d2,df,dS,hF⟩
    have HF:=hid hF
    clear HD hF
    refine hK9.out _ _ d0 (fun hSS=>?_)
    try simp only[Act.put,zA,zB,zC]
    refine Ti 12 rfl ?_
    refine Ti 13 rfl ?_
    try simp only[Act.put,zA,zB,zC]
    refine Ri 14 rfl (fun K9 hK9=>?_)
    go_simp
    refine hK9.out _ _ dS (fun hSS=>?_)
    try simp only[Act.put,zA,zB,zC]
    refine Dn (NoPanic.normal ?_)
    clear hSS
    go_wp2_with fail
    obtain⟨wz,hwz⟩:∃wz,wz=wd.setCell ⟨x,2,none⟩ (.slice (some ⟨sb,0,none⟩) p cap):=⟨_,rfl⟩
    rw[<- hwz]
    obtain⟨e0,e3,ef,eS,hG⟩:=HF.out wz hwz
    have HG:=hid hG
    clear hG HF hwz d0 d2 df dS
    refine wp_region_noPanic ?_
    refine Gz (S:=fun w'=>w'.cell? ⟨w.heap.size,0,none⟩=some (.pointer (some ⟨x,0,none⟩))) e0 (fun hSS=>?_)
    refine Ti 0 rfl ?_
    try simp only[Act.put,zA,zB,zC]
    refine Ti 1 rfl ?_
    refine Ti 2 rfl ?_
    refine Ti 3 rfl ?_
    refine Ti 5 rfl ?_
    try simp only[Act.put,zA,zB,zC]
    refine Ti 6 rfl ?_
    try simp only[Act.put,zA,zB,zC]
    refine Ri 4 rfl (fun K9 hK9=>?_)
    go_simp
    refine hK9.out _ _ hSS (fun hSS=>?_)
    try simp only[Act.put,zA,zB,zC]
    refine Ti 7 rfl ?_
    refine Ti 8 rfl ?_
    refine Ti 9 rfl ?_
    try simp only[Act.put,zA,zB,zC]
    refine Ri 10 rfl (fun K9 hK9=>?_)
    go_simp
    refine hK9.out _ _ eS (fun hSS=>?_)
    try simp only[Act.put,zA,zB,zC]
    refine Dn (NoPanic.normal ?_)
    clear hSS
    go_wp2_with fail
    obtain⟨hK,hP⟩:=HG.out D hDl hDk
    refine⟨by simp,.inl ⟨_,_,rfl,run_takeDeferred hK,?_⟩⟩
    exact⟨_,results_none rfl _ _ _,hP⟩
   ·go_simp
    refine hK9.out _ _ hSS (fun hSS=>?_)
    try simp only[Act.put,zA,zB,zC]
    refine Ti 10 rfl ?_
    try simp only[Act.put,zA,zB,zC]
    refine Ri 4 rfl (fun K9 hK9=>?_)
    go_simp
    refine hK9.out _ _ hSS (fun hSS=>?_)
    try simp only[Act.put,zA,zB,zC]
    refine Ri 11 rfl (fun K9 hK9=>?_)
    go_simp
    go_at_call 98
    refine Calls.mono HD.out ?_
    rintro e wd ⟨rfl,d0,d2,df,dS,hF⟩
    have HF:=hid hF
    clear HD hF
    refine hK9.out _ _ d0 (fun hSS=>?_)
    try simp only[Act.put,zA,zB,zC]
    refine Ti 12 rfl ?_
    refine Ti 13 rfl ?_
    try simp only[Act.put,zA,zB,zC]
    refine Ri 14 rfl (fun K9 hK9=>?_)
    go_simp
    refine hK9.out _ _ dS (fun hSS=>?_)
    try simp only[Act.put,zA,zB,zC]
    refine Dn (NoPanic.normal ?_)
    clear hSS
    go_wp2_with fail
    obtain⟨wz,hwz⟩:∃wz,wz=wd.setCell ⟨x,2,none⟩ (.slice (some ⟨sb,0,none⟩) p cap):=⟨_,rfl⟩
    rw[<- hwz]
    obtain⟨e0,e3,ef,eS,hG⟩:=HF.out wz hwz
    have HG:=hid hG
    clear hG HF hwz d0 d2 df dS
    refine wp_region_noPanic ?_
    refine Gz (S:=fun w'=>w'.cell? ⟨w.heap.size,0,none⟩=some (.pointer (some ⟨x,0,none⟩))) e0 (fun hSS=>?_)
    refine Ti 0 rfl ?_
    try simp only[Act.put,zA,zB,zC]
    refine Ti 1 rfl ?_
    refine Ti 2 rfl ?_
    refine Ti 3 rfl ?_
    refine Ti 5 rfl ?_
    try simp only[Act.put,zA,zB,zC]
    refine Ti 6 rfl ?_
    try simp only[Act.put,zA,zB,zC]
    refine Ri 4 rfl (fun K9 hK9=>?_)
    go_simp
    refine hK9.out _ _ hSS (fun hSS=>?_)
    try simp only[Act.put,zA,zB,zC]
    refine Ti 7 rfl ?_
    refine Ti 8 rfl ?_
    refine Ti 9 rfl ?_
    try simp only[Act.put,zA,zB,zC]
    refine Ri 10 rfl (fun K9 hK9=>?_)
    go_simp
    refine hK9.out _ _ eS (fun hSS=>?_)
    try simp only[Act.put,zA,zB,zC]
    refine Dn (NoPanic.normal ?_)
    clear hSS
    go_wp2_with fail
    obtain⟨hK,hP⟩:=HG.out D hDl hDk
    refine⟨by simp,.inl ⟨_,_,rfl,run_takeDeferred hK,?_⟩⟩
    exact⟨_,results_none rfl _ _ _,hP⟩
  case stop=>
   rintro D c pre W _ _ h _
   exact h.elim
end Go.Proofs.YthfojpcibnfmgaaGreat
