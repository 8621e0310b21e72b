import Derived.Test.YtlefjidbpjkhlaaGreatK36
import Derived.RangeFuncBox
set_option maxRecDepth 100000
set_option maxHeartbeats 16000000
namespace Go.Proofs.YtlefjidbpjkhlaaGreat
variable {z1 z2:List Int}
variable {K N b c e f k m n nk r t x:Nat}
variable {w:World}
variable {v:Value}
variable {xs:List Value}
variable {Y:Nat->Prop}
variable {F:Cf}
variable {C:Nat->List Int}
variable {L:Nat->Option (List Int)}
variable {Ms:List (Nat->Option (List Int))}
variable {lf zk:Int}
variable {ab:Bool}
variable {P:Program}
variable {α:Type}
variable {Q:Exit->Act->World->Prop}
open Go.RowKit Go.Deep Go.Shelf
attribute [local go_sem] Oper.semAt_some
theorem frl_take(hm:m<nk)(hc:(frl z1 z2 (m+1)).length=c):frl z1 z2 (m+1)=(frl z1 z2 nk).take c:=by
 obtain⟨d,rfl⟩:∃d,nk=m+1+d:=⟨nk-(m+1),by omega⟩
 have:frl z1 z2 (m+1+d)=frl z1 z2 (m+1)++((List.range d).map (m+1+·)).filter (fre z1 z2):=by
  unfold frl
  rw[List.range_add,List.filter_append]
 rw[this,<- hc,List.take_left]
theorem owns_base{b' s:Nat}(h:w.ownsRow b e s v n xs)(hb:b'<=b):w.ownsRow b' e s v n xs:=by
 rcases h with ⟨h0,h1 | ⟨g,cap,cur,h1,h2,h3⟩⟩
 ·exact⟨h0,.inl h1⟩
 ·exact⟨h0,.inr ⟨g,cap,cur,h1,by omega,h3⟩⟩
theorem GpC.lowestFree{sz:Int}{b:Bool}(h:GpC Y w F K N C t L Ms n x f r k)(hnk:nk<=480)(c:Nat)(hc1:0<c) :
  Calls Tryz.prog 97 #[.agg #[.pointer (some ⟨x,0,none⟩),.int .i64 sz,.int .i64 lf,.pointer (some ⟨t,0,none⟩),.pointer (some ⟨F.st,0,none⟩),.bool b,.int .i64 (k:Int),.int .i64 (nk:Int),.int .i64 zk,.bool ab],.int .i64 (c:Int)] w fun e w'=>∃tv Y',e=.returned (.tuple #[tv,.int .i64 0])/\w'.ownsRow w.heap.size 3 1 tv ((frl ((L (f+(indexN r+k))).getD (C (f+(indexN r+k)))) (cpg b r (indexN r+k) (C (f+(indexN r+k)))) nk).take c).length (((frl ((L (f+(indexN r+k))).getD (C (f+(indexN r+k)))) (cpg b r (indexN r+k) (C (f+(indexN r+k)))) nk).take c).map (fun i:Nat=>Value.int .i64 ((480 * k+i+1:Nat):Int)))/\(∀q,tv.ownBlock=some q->¬Y' q)/\Opn Y' w' F (K+2) N C t L Ms n/\Gr Y Y' w/\But Y w w':=by
 refine poz fun PO hPO=>?_
 obtain⟨w0,hw0⟩:∃w0,w0=(w.alloc (.cells #[.pointer (some ⟨x,0,none⟩),.int .i64 sz,.int .i64 lf,.pointer (some ⟨t,0,none⟩),.pointer (some ⟨F.st,0,none⟩),.bool b,.int .i64 (k:Int),.int .i64 (nk:Int),.int .i64 zk,.bool ab] 166)).alloc (.cells #[.int .i64 (c:Int)] 3):=⟨_,rfl⟩
 have z0:w0.heap.size=w.heap.size+2:=by rw[hw0];simp
 have b0:Below w.heap.size w w0:=by rw[hw0];exact ((Below.refl _ _).alloc (Nat.le_refl _) _).alloc (by simp) _
 have HG:=hid (gfree_any (w:=w0) ((h.below b0).gfs (nk:=nk) (sz:=sz) (lf:=lf) (zk:=zk) (b:=b) (ab:=ab)))
 have HW:=hid hw0
 have HPO:=hid hPO
 have HLT:=hid h.op.lt
 have HCB:Hid (w0.heap[w.heap.size+1]?=some (.cells #[.int .i64 (c:Int)] 3 (0,0))):=by rw[hw0];exact (heap2 _ _ _).2
 clear h hPO hw0
 refine (callsIn_wide (n:=5)).1 ?_
 refine callsIn_of_wp_marks Tryz.func97 rfl trivial ?_ rfl
 refine wpIn_wide.2 ?_
 simp only[Tryz.ntmps97,List.size_toArray,List.length_cons,List.length_nil,Nat.reduceAdd,Nat.reduceSub,Array.replicate_succ,Array.replicate_zero,List.push_toArray,List.append_toArray,List.nil_append,List.cons_append]
 go_wp2_with fail
 rw[<- HW.out]
 refine Calls.mono HG.out ?_
 rintro e w1 ⟨q4,q5,g,cp,g2,cp2,rfl,hs⟩
 have HI:=hid hs.gfi
 clear hs HG HW
 go_wp2_with fail
 obtain⟨w2,hw2⟩:∃w2,w2=w1.alloc (.cells #[.slice none 0 0] 37):=⟨_,rfl⟩
 obtain⟨B0,hB0⟩:∃B0,B0=w1.heap.size:=⟨_,rfl⟩
 have z2:w2.heap.size=w1.heap.size+1:=by rw[hw2];simp
 have b2:Below w1.heap.size w1 w2:=by rw[hw2];exact (Below.refl _ _).alloc (Nat.le_refl _) _
 have hI1:=HI.out
 rw[<- hB0]at hI1
 have hlB:=hI1.lt
 have zz:(w0.alloc (.cells #[.pointer (some ⟨x,0,none⟩),.int .i64 sz,.int .i64 lf,.pointer (some ⟨t,0,none⟩),.pointer (some ⟨F.st,0,none⟩),.bool b,.int .i64 (k:Int),.int .i64 (nk:Int),.int .i64 zk,.bool ab] 166)).heap.size=w0.heap.size+1:=by simp
 have hI2:=hI1.keep (But.of_below b2 (X:=fun _=>False)) (fun _ _ q=>q.elim)
 have hcb1:w1.heap[w.heap.size+1]?=some (.cells #[.int .i64 (c:Int)] 3 (0,0)):=by
  obtain⟨Y1,_,_,o3,_⟩:=hI1.out
  have b0':Below w0.heap.size w0 (w0.alloc (.cells #[.pointer (some ⟨x,0,none⟩),.int .i64 sz,.int .i64 lf,.pointer (some ⟨t,0,none⟩),.pointer (some ⟨F.st,0,none⟩),.bool b,.int .i64 (k:Int),.int .i64 (nk:Int),.int .i64 zk,.bool ab] 166)):=(Below.refl _ _).alloc (Nat.le_refl _) _
  refine (o3.block (w.heap.size+1) (by omega) (fun q=>by have:=HLT.out _ q;omega)).trans ((b0'.block (w.heap.size+1) (by omega)).trans HCB.out)
 have hc2:Boxed w2 B0 37 (.slice none 0 0):=by rw[hw2,hB0];exact Boxed.new w1 37 _
 obtain⟨I0,hI0⟩:∃I0:List Nat->World->Prop,I0=fun pre W=>GfI Y (w0.alloc (.cells #[.pointer (some ⟨x,0,none⟩),.int .i64 sz,.int .i64 lf,.pointer (some ⟨t,0,none⟩),.pointer (some ⟨F.st,0,none⟩),.bool b,.int .i64 (k:Int),.int .i64 (nk:Int),.int .i64 zk,.bool ab] 166)) F K N C t L Ms n x f r k w0.heap.size sz lf (nk:Int) zk b ab B0 q4 q5 (.slice (some ⟨g,0,none⟩) 512 cp) (.slice (some ⟨g2,0,none⟩) 512 cp2) g cp g2 cp2 W/\∃tv,Boxed W B0 37 tv/\W.ownsRow (w2.heap.size+2) 3 1 tv pre.length (pre.map (fun i:Nat=>Value.int .i64 ((480 * k+i+1:Nat):Int)))/\W.heap[w.heap.size+1]?=some (.cells #[.int .i64 (c:Int)] 3 (0,0)):=⟨_,rfl⟩
 have hIk:∀pre (X:Nat->Prop) W W',But X W W'->(∀q,X q->B0<q/\q<(w2.heap.size+2))->I0 pre W->I0 pre W':=fun pre X W W' hb hX q=>by
  rw[hI0]at q ⊢
  obtain⟨q1,tv,q2,q3,q4'⟩:=q
  refine⟨q1.keep hb (fun q _ e=>Nat.le_of_lt (hX q e).1),tv,(hb.block B0 q2.lt (fun e=>by have:=hX _ e;omega)).trans q2,owns_keep q3 (fun g' e=>hb.block g' (World.ownsRow.lt q3 g' e).2 (fun e2=>by have:=hX _ e2;have:=(World.ownsRow.lt q3 g' e).1;omega)),(hb.block (w.heap.size+1) (Array.getElem?_eq_some_iff.1 q4').1 (fun e=>by have:=hX _ e;omega)).trans q4'⟩
 have HI0:=hid hI0
 have HIk:=hid hIk
 have J0:Hid (I0 [] w2):=by
  rw[hI0]
  exact⟨hI2,_,hc2,⟨rfl,.inl ⟨rfl,rfl⟩⟩,(b2.block (w.heap.size+1) (by omega)).trans hcb1⟩
 have HV:∀pre W,I0 pre W/\pre.length<c->FrV (w.heap.size+2) q4 q5 k nk g cp g2 cp2 ((L (f+(indexN r+k))).getD (C (f+(indexN r+k)))) (cpg b r (indexN r+k) (C (f+(indexN r+k)))) W:=fun pre W q=>by
  have q:=q.1
  rw[hI0]at q
  have:=q.1.frv
  rwa [z0]at this
 have HEnd:Hid (∀D W xs,w2.heap.size=D->xs=(frl ((L (f+(indexN r+k))).getD (C (f+(indexN r+k)))) (cpg b r (indexN r+k) (C (f+(indexN r+k)))) nk).take c->I0 xs W->∀tv,W.cell? ⟨w1.heap.size,0,none⟩=some tv->Boxed W w1.heap.size 37 tv->PO (.returned (.tuple #[tv,.int .i64 0])) (W.putObj D (.deferred none))):=fun D W xs hD hS hi tv hc _=>by
  rw[hI0]at hi
  obtain⟨hg,tv',hv,hrow,hcb⟩:=hi
  have e1:=hv.cell
  rw[hB0,hc]at e1
  injection e1 with e1
  subst e1
  obtain⟨Y',o1,o2,o3,o4⟩:=hg.out
  have bp:=but_put W D (.deferred none)
  have b0':Below w0.heap.size w0 (w0.alloc (.cells #[.pointer (some ⟨x,0,none⟩),.int .i64 sz,.int .i64 lf,.pointer (some ⟨t,0,none⟩),.pointer (some ⟨F.st,0,none⟩),.bool b,.int .i64 (k:Int),.int .i64 (nk:Int),.int .i64 zk,.bool ab] 166)):=(Below.refl _ _).alloc (Nat.le_refl _) _
  have b01:Below w.heap.size w (w0.alloc (.cells #[.pointer (some ⟨x,0,none⟩),.int .i64 sz,.int .i64 lf,.pointer (some ⟨t,0,none⟩),.pointer (some ⟨F.st,0,none⟩),.bool b,.int .i64 (k:Int),.int .i64 (nk:Int),.int .i64 zk,.bool ab] 166)):=b0.trans (b0'.mono (by omega))
  rw[HPO.out]
  refine⟨tv,Y',rfl,?_,fun q e e2=>?_,o1.keep bp (fun q _ e1 e2=>by have:=o4 q e2;omega),fun q hq e=>o2 q (by omega) e,?_⟩
  ·rw[<- hS]
   have hr2:W.ownsRow w.heap.size 3 1 tv xs.length (xs.map (fun i:Nat=>Value.int .i64 ((480 * k+i+1:Nat):Int))):=owns_base hrow (by omega)
   exact owns_keep hr2 (fun g' e=>bp.block g' (World.ownsRow.lt hr2 g' e).2 (fun e2=>by have:=(World.ownsRow.lt hrow g' e).1;omega))
  ·have:=o4 q e2
   have:=(World.ownsRow.lt hrow q e).1
   omega
  ·exact ((But.of_below b01 (X:=Y)).trans o3).comp bp (fun q hq e=>by omega)
 have hkk:k<=1000:=hI1.1.hk
 have HIT:=hid (free1_it 3 (by omega) (w.heap.size+2) q4 q5 k nk g cp g2 cp2 ((L (f+(indexN r+k))).getD (C (f+(indexN r+k)))) (cpg b r (indexN r+k) (C (f+(indexN r+k)))) hkk hnk w2.heap.size (fun pre W=>I0 pre W/\pre.length<c) (fun cd pre W=>cd=.exit 0/\I0 pre W/\pre.length=c) w2 HV)
 rw[<- hw2]
 clear hI1 hI2 hc2 hI0 hIk hw2 HI HV hcb1
 refine (wpIn_wide (n:=4)).1 ?_
 refine rfLaw (F:=Fence.wide) (n:=4) rfl (by omega) (gf:=187) (lb:=#[.pointer (some ⟨w.heap.size+2,0,none⟩),.pointer (some ⟨q4,0,none⟩),.pointer (some ⟨q5,0,none⟩)]) rfl trivial (enters_of Tryz.func187 (by kernel_rfl) rfl) (fun _=>rfl) (fun pre W=>I0 pre W/\pre.length<c) (fun cd pre W=>cd=.exit 0/\I0 pre W/\pre.length=c) ?hI ?hIx ?h0 (fun pre i a' W=>(I0 pre W/\pre.length<c)/\a'={ tmps:=#[Value.agg #[Value.pointer (some { block:=x,off:=0 }),Value.int IntKind.i64 sz,Value.int IntKind.i64 lf,Value.pointer (some { block:=t,off:=0 }),Value.pointer (some { block:=F.st,off:=0 }),Value.bool b,Value.int IntKind.i64 ↑k,Value.int IntKind.i64 ↑nk,Value.int IntKind.i64 zk,Value.bool ab],Value.int IntKind.i64 ↑c,Value.pointer (some { block:=w.heap.size,off:=0 }),Value.pointer (some { block:=w.heap.size+1,off:=0 }),Value.slice none 0 0,Value.int IntKind.i64 0,Value.func (Fn.func 187) #[] #[Value.pointer (some { block:=w.heap.size+2,off:=0 }),Value.pointer (some { block:=q4,off:=0 }),Value.pointer (some { block:=q5,off:=0 })],Value.int IntKind.i64 0,Value.pointer (some { block:=w1.heap.size,off:=0 }),Value.int IntKind.i64 ((480 * k+i+1:Nat):Int),Value.tuple #[Value.func (Fn.func 187) #[] #[Value.pointer (some { block:=w.heap.size+2,off:=0 }),Value.pointer (some { block:=q4,off:=0 }),Value.pointer (some { block:=q5,off:=0 })],Value.int IntKind.i64 0],Value.agg #[Value.pointer (some { block:=x,off:=0 }),Value.int IntKind.i64 sz,Value.int IntKind.i64 lf,Value.pointer (some { block:=t,off:=0 }),Value.pointer (some { block:=F.st,off:=0 }),Value.bool b,Value.int IntKind.i64 ↑k,Value.int IntKind.i64 ↑nk,Value.int IntKind.i64 zk,Value.bool ab],Value.tuple #[Value.func (Fn.func 187) #[] #[Value.pointer (some { block:=w.heap.size+2,off:=0 }),Value.pointer (some { block:=q4,off:=0 }),Value.pointer (some { block:=q5,off:=0 })],Value.int IntKind.i64 0],Value.func (Fn.func 187) #[] #[Value.pointer (some { block:=w.heap.size+2,off:=0 }),Value.pointer (some { block:=q4,off:=0 }),Value.pointer (some { block:=q5,off:=0 })],Value.int IntKind.i64 0,Value.int IntKind.i64 0,Value.bool false,undef,Value.func (Fn.func 187) #[] #[Value.pointer (some { block:=w.heap.size+2,off:=0 }),Value.pointer (some { block:=q4,off:=0 }),Value.pointer (some { block:=q5,off:=0 })],Value.int IntKind.i64 ((480 * k+i+1:Nat):Int),undef,undef,undef,undef,undef,undef,undef,undef,undef],defers:=[] }) ?hAx HIT.out ?assign ?body ?done ?stop
 case hI=>exact fun s W o _ q=>⟨HIk.out s _ W _ (but_put W _ o) (fun q e=>by omega) q.1,q.2⟩
 case hIx=>exact fun cd s W o _ q=>⟨q.1,HIk.out s _ W _ (but_put W _ o) (fun q e=>by omega) q.2.1,q.2.2⟩
 case h0=>exact fun o1 o2=>⟨HIk.out [] (fun _=>False) w2 _ (But.of_below (((Below.refl _ _).alloc (Nat.le_refl _) o1).alloc (by simp) o2)) (fun _ q=>q.elim) J0.out,hc1⟩
 case hAx=>exact fun pre x a' W o _ q=>⟨⟨HIk.out pre _ W _ (but_put W _ o) (fun q e=>by omega) q.1.1,q.1.2⟩,q.2⟩
 case assign=>
  intro l pre i W KK hlt hi hlen hK
  gi_wp2
  exact hK _ _ (Dl2.refl _ _) ⟨hi,by simp⟩
 case body=>
  rintro l pre i a' W hlt ⟨⟨hi,hlc⟩,rfl⟩ hlen
  have HIi:=hid hi
  rw[HI0.out]at hi
  obtain⟨hg,tv,hv,hrow,hcb⟩:=hi
  have c8:W.cell? ⟨w1.heap.size,0,none⟩=some tv:=by rw[<- hB0];exact hv.cell
  have ccb:W.cell? ⟨w.heap.size+1,0,none⟩=some (.int .i64 (c:Int)):=by simp[World.cell?,hcb]
  obtain⟨i0,hi3,hz0,hz1,hz2⟩:=info_parts info3
  have hne:¬w.heap.size+1=w1.heap.size:=by omega
  have hne2:¬w1.heap.size=w.heap.size+1:=by omega
  obtain⟨bn,hbn⟩:∃bn:Nat,bn=480 * k+i+1:=⟨_,rfl⟩
  have NX:Hid (∀tmp v' w3,w3.ownsRow (w2.heap.size+2) 3 1 v' (pre.length+1) (pre.map (fun i:Nat=>Value.int .i64 ((480 * k+i+1:Nat):Int))++[.int .i64 (bn:Int)])->(W.alloc tmp).grownBy w3 tv.ownBlock->(w3.cell? ⟨w1.heap.size,0,none⟩=some tv/\w3.frozen? ⟨w1.heap.size,0,none⟩=false/\w3.cell? ⟨w.heap.size+1,0,none⟩=some (.int .i64 (c:Int)))/\Dl2 w2.heap.size W (w3.setCell ⟨w1.heap.size,0,none⟩ v')/\I0 (pre++[i]) (w3.setCell ⟨w1.heap.size,0,none⟩ v')):=fun tmp v' w3 hown hgr=>by
   have hv1:Boxed w3 B0 37 tv:=(hv.alloc tmp).kept hgr (hv.not_row (by decide) hrow)
   have bX:But (fun q=>q=B0\/(w2.heap.size+2)<=q) W w3:=((But.refl (fun q=>q=B0\/(w2.heap.size+2)<=q) W).alloc tmp).of_grown hgr (fun x e _=>.inr (World.ownsRow.lt hrow x e).1)
   have bX2:But (fun q=>q=B0\/(w2.heap.size+2)<=q) W (w3.setCell ⟨B0,0,none⟩ v'):=bX.setCell (p:=⟨B0,0,none⟩) (.inl rfl) _
   have hlb:=hg.lt
   have hcbl:=(Array.getElem?_eq_some_iff.1 hcb).1
   have hcb3:=(bX.block (w.heap.size+1) hcbl (by omega)).trans hcb
   rw[<- hB0]
   refine⟨⟨hv1.cell,hv1.frozen,by simp[World.cell?,hcb3]⟩,Dl2.of_but bX2 hlt (by omega) (by omega),?_⟩
   rw[HI0.out]
   refine⟨hg.keep bX2 (fun q _ e=>by omega),v',hv1.set v',?_,(bX2.block (w.heap.size+1) hcbl (by omega)).trans hcb⟩
   rw[List.length_append,List.map_append]
   have:=hown.kept (grownBy_setCell' w3 B0 v') (.inr (hv1.not_row (by decide) hown).symm)
   rw[hbn]at this
   exact this
  have hrow':=hrow
  have hl1:pre.length+1<=480:=by omega
  rw[<- hbn]
  clear HIT HEnd HIk hg hv hcb HIi hrow hbn
  by_cases hcc:pre.length+1=c
  ·have hcc2:((pre.length:Int)+1)=(c:Int):=by omega
   have HCC:=hid hcc
   gi_wp2_with (gi_at_builtin;refine wpListIn_append_own _ rfl _ _ 37 rfl (w2.heap.size+2) 3 i0 (.int .i64 0) 1 8 Tryz.underlying37 hi3 hz0 hz1 hz2 rfl (by decide) _ _ _ rfl (hrow'.alloc _) ⟨W.heap.size,0,none⟩ 1 1 [.int .i64 (bn:Int)] rfl rfl (cell_one_new _ _ _) (by simp[Value.oneCell']) (by unfold maxLen;omega) (by omega) (by simp;omega) ?_;intro v' w3 hown' hgrow _;obtain⟨g',cap',rfl⟩:=ownsRow_succ hown';obtain⟨⟨d1,d2,d3⟩,hdl,hnx⟩:=NX.out _ _ w3 hown' hgrow;have HDL:=hid hdl;have HNX:=hid hnx;clear hdl hnx hown' hgrow)
   have q1:=HDL.out
   have q2:=HNX.out
   rw[HCC.out]at q1 q2
   exact⟨q1,rfl,q2,by rw[List.length_append];exact HCC.out⟩
  ·have hcc2:¬((pre.length:Int)+1)=(c:Int):=by omega
   gi_wp2_with (gi_at_builtin;refine wpListIn_append_own _ rfl _ _ 37 rfl (w2.heap.size+2) 3 i0 (.int .i64 0) 1 8 Tryz.underlying37 hi3 hz0 hz1 hz2 rfl (by decide) _ _ _ rfl (hrow'.alloc _) ⟨W.heap.size,0,none⟩ 1 1 [.int .i64 (bn:Int)] rfl rfl (cell_one_new _ _ _) (by simp[Value.oneCell']) (by unfold maxLen;omega) (by omega) (by simp;omega) ?_;intro v' w3 hown' hgrow _;obtain⟨g',cap',rfl⟩:=ownsRow_succ hown';obtain⟨⟨d1,d2,d3⟩,hdl,hnx⟩:=NX.out _ _ w3 hown' hgrow;have HDL:=hid hdl;have HNX:=hid hnx;clear hdl hnx hown' hgrow)
   exact⟨HDL.out,HNX.out,by rw[List.length_append,List.length_singleton];omega⟩
 case done=>
  rintro D xs W hD hS ⟨hi,hlc⟩ hDk
  have HP:=hid (HEnd.out D W xs hD (by rw[List.take_of_length_le (by rw[<- hS];omega),hS]) hi)
  rw[HI0.out]at hi
  obtain⟨hg,tv,hv,hrow,hcb⟩:=hi
  have c8:W.cell? ⟨w1.heap.size,0,none⟩=some tv:=by rw[<- hB0];exact hv.cell
  have HP2:=hid (HP.out tv c8 (by rw[<- hB0];exact hv))
  have HDk:=hid hDk
  clear hg hv hrow hcb HIT HEnd HIk HI0 hS hDk hD HP
  go_wp2_with fail
  refine⟨by simp,.inl ⟨_,_,rfl,run_takeDeferred HDk.out,?_⟩⟩
  refine⟨_,results_tmp2 rfl _ _ _,?_⟩
  simpa using HP2.out
 case stop=>
  rintro D cd pre W hD ⟨m,hm,hpre⟩ ⟨rfl,hi,hlc⟩ hDk
  have HP:=hid (HEnd.out D W pre hD (by rw[hpre]at hlc ⊢;exact frl_take hm hlc) hi)
  rw[HI0.out]at hi
  obtain⟨hg,tv,hv,hrow,hcb⟩:=hi
  have c8:W.cell? ⟨w1.heap.size,0,none⟩=some tv:=by rw[<- hB0];exact hv.cell
  have HP2:=hid (HP.out tv c8 (by rw[<- hB0];exact hv))
  have HDk:=hid hDk
  clear hg hv hrow hcb HIT HEnd HIk HI0 hpre hDk hD HP
  refine wpIn_wide.2 ?_
  go_wp2_with fail
  refine⟨by simp,.inl ⟨_,_,rfl,run_takeDeferred HDk.out,?_⟩⟩
  refine⟨_,results_tmp2 rfl _ _ _,?_⟩
  simpa using HP2.out
open Go.RowKit
def RfYG {γ α:Type} (F:Fence) (m:Nat) (P:Program) (B N:Nat) (encs:α->Array Value) (E:α->Prop) (I:γ->List α->World->Prop) (Ix:γ->Code->List α->World->Prop) (R:World->Prop) (Rx:Code->World->Prop):Prop :=
 ∀c0 pre x A,E x->I c0 pre A->R A->pre.length<N->YieldAt F m P (B+1) (encs x) A fun e A'=>(e=.returned (.bool true)/\I c0 (pre++[x]) A'/\R A')\/(e=.returned (.bool false)/\∃c,Ix c0 c (pre++[x]) A'/\Rx c A')
def RfItG {γ α:Type} (F:Fence) (n:Nat) (P:Program) (gf:Nat) (lb:Array Value) (B N:Nat) (encs:α->Array Value) (S Sp:γ->List α->Prop) (E:α->Prop) (I:γ->List α->World->Prop) (Ix:γ->Code->List α->World->Prop) (w:World) (c1:γ):Prop :=
 ∀(R:World->Prop) (Rx:Code->World->Prop) (W:World),(∀A A',R A->Dl2 B A A'->R A')->(∀c A A',Rx c A->Dl2 B A A'->Rx c A')->(∀A,R A->B+1<A.heap.size)->(∀c A,Rx c A->B+1<A.heap.size) ->
  RfYG F (n-1) P B N encs E I Ix R Rx->I c1 [] W->R W->Below B w W ->
  CallsIn F n P gf (#[.func (.yield (B+1)) #[] #[]]++lb) W fun e W'=>(∃v,e=.returned v)/\((∃c0 xs,S c0 xs/\I c0 xs W'/\R W')\/(∃c0 pre c,Sp c0 pre/\Ix c0 c pre W'/\Rx c W'))
theorem rfLawG {F:Fence} {γ:Type} {g:Operand} {ps:Array Tmp} {assign body:Code} {a:Act} 
  (hro:F.round=none) (h1:1<=n) {gf:Nat} {lb:Array Value} (hg:a.eval g=.func (.func gf) #[] lb) (hFg:F.fn gf) (eg:∀args w,(callFunc gf args).run P w=.ok (.enter gf args) w)
  {encs:α->Array Value} {S Sp:γ->List α->Prop} {E:α->Prop} (hps:∀x,(encs x).size=ps.size)
  (I:γ->List α->World->Prop) (Ix:γ->Code->List α->World->Prop) (hI:∀c0 s W o,w.heap.size+1<W.heap.size->I c0 s W->I c0 s (W.putObj (w.heap.size+1) o)) (hIx:∀c0 c s W o,w.heap.size+1<W.heap.size->Ix c0 c s W->Ix c0 c s (W.putObj (w.heap.size+1) o)) (c1:γ) (h0:∀o1 o2,I c1 [] ((w.alloc o1).alloc o2))
  (Ax:γ->List α->α->Act->World->Prop) (hAx:∀c0 pre x a' W o,w.heap.size+1<W.heap.size->Ax c0 pre x a' W->Ax c0 pre x a' (W.putObj (w.heap.size+1) o))
  (hit:RfItG F (n-1) P gf lb w.heap.size N encs S Sp E I Ix w c1)
  (hassign:∀(l:Nat) (c0:γ) (pre:List α) (x:α) (W:World) (K:Act->World->Prop),w.heap.size+1<W.heap.size->E x->I c0 pre W->pre.length<N->(∀a' W',Dl2 w.heap.size W W'->Ax c0 pre x a' W'->K a' W') ->
   assign.wpIn (F.inRound l) (n-1-1) P (Exit.then K (fun _ _ _=>False)) { tmps:=(ps.zip (encs x)).foldl (fun t (p,v)=>t.setIfInBounds p v) a.tmps,defers:=[] } W)
  (hbody:∀(l:Nat) (c0:γ) (pre:List α) (x:α) (a':Act) (W:World),w.heap.size+1<W.heap.size->E x->Ax c0 pre x a' W->pre.length<N->body.wpIn (F.inRound l) (n-1-1) P (rfPost w.heap.size (I c0) (Ix c0) (pre++[x]) W) a' W)
  (hdone:∀(D:Nat) (c0:γ) (xs:List α) (W:World),w.heap.size=D->S c0 xs->I c0 xs W->W.heap[D]?=some (.deferred (some []))->Q .normal { a with defers:={ target:=.collected D,args:=#[] } :: a.defers } W)
  (hstop:∀(D:Nat) (c0:γ) (c:Code) (pre:List α) (W:World),w.heap.size=D->Sp c0 pre->Ix c0 c pre W->W.heap[D]?=some (.deferred (some []))->c.wpIn F n P Q { a with defers:={ target:=.collected D,args:=#[] } :: a.defers } W) :
  (Code.rangeFunc g ps assign body).wpIn F n P Q a w:=by
 refine wpIn_rangeFunc fun fn hfn=>?_
 rw[hro]
 generalize hB:w.heap.size=B at *
 obtain⟨lp,hlp⟩:∃lp:LoopState->Option Code->Obj,lp=fun st pe=>.loop { state:=st,pending:=pe,fn,tmps:=a.tmps,params:=ps,assign,body,defers:=B }:=⟨_,rfl⟩
 obtain⟨R,hR⟩:∃R:World->Prop,R=fun A=>A.heap[B+1]?=some (lp .ready none)/\A.heap[B]?=some (.deferred (some [])):=⟨_,rfl⟩
 obtain⟨Rx,hRx⟩:∃Rx:Code->World->Prop,Rx=fun c A=>A.heap[B+1]?=some (lp .done (some c))/\A.heap[B]?=some (.deferred (some [])):=⟨_,rfl⟩
 obtain⟨W1,hW1⟩:∃W1,W1=(w.alloc (.deferred (some []))).alloc (lp .ready none):=⟨_,rfl⟩
 have hs1:W1.heap.size=B+2:=by rw[hW1];simp only[World.size_alloc];omega
 have hR1:R W1:=by
  rw[hR,hW1]
  refine⟨?_,?_⟩
  ·have:=World.alloc_heap_new (w.alloc (.deferred (some []))) (lp .ready none)
   rwa [World.size_alloc,hB]at this
  ·rw[<- hB]
   exact (Below.heap_alloc _ _ _ (by simp)).trans (World.alloc_heap_new w _)
 have hI1:I c1 [] W1:=by rw[hW1];exact h0 _ _
 have hb1:Below B w W1:=by
  rw[hW1,<- hB]
  exact ((Below.refl _ w).alloc (Nat.le_refl _) _).alloc (by simp) _
 have hRl:∀A,R A->B+1<A.heap.size:=fun A q=>by
  rw[hR]at q
  exact (Array.getElem?_eq_some_iff.1 q.1).1
 have hRxl:∀c A,Rx c A->B+1<A.heap.size:=fun c A q=>by
  rw[hRx]at q
  exact (Array.getElem?_eq_some_iff.1 q.1).1
 refine⟨B+1,[{ target:=.collected B,args:=#[] }],W1,{ target:=.fn (.func gf) lb,args:=#[.func (.yield (B+1)) #[] #[]] },W1,gf,#[.func (.yield (B+1)) #[] #[]]++lb,W1,?_,?_,?_,?_,fun _=>h1,?_⟩
 ·rw[hW1,hlp,<- hB]
  exact run_enterLoop_outer _ _ _ _ _
 ·simp only[resolve,hg]
  simp[go_sem]
 ·intro f' hf'
  simp[Target.leads]at hf'
  subst hf'
  exact hFg
 ·simp[invoke,go_sem,eg]
 ·refine (hit R Rx W1 (fun A A' q t=>?_) (fun c A A' q t=>?_) hRl hRxl (fun c0 pre x A hE hi hr hlen=>?_) hI1 hR1 hb1).mono ?_
  ·rw[hR]at q ⊢
   exact⟨t.l.trans q.1,t.d.trans q.2⟩
  ·rw[hRx]at q ⊢
   exact⟨t.l.trans q.1,t.d.trans q.2⟩
  ·have hlt:=hRl A hr
   rw[hR]at hr
   obtain⟨hl,hk⟩:=hr
   have hl':=hl
   rw[hlp]at hl'
   refine⟨fn,_,assign,body,run_yield (P:=P) (args:=encs x) hl' (hps x),roundIn_of_wpIn hfn (hassign _ c0 pre x A _ hlt hE hi hlen fun a1 A1 t1 ax=>?_)⟩
   have hl1:A1.heap[B+1]?=some (lp .ready none):=t1.l.trans hl
   have hl1':=hl1
   rw[hlp]at hl1'
   have hlt1:=(Array.getElem?_eq_some_iff.1 hl1).1
   refine⟨_,run_beginRound hl1' rfl,?_⟩
   obtain⟨A2,hA2⟩:∃A2,A2=A1.putObj (B+1) (lp .busy none):=⟨_,rfl⟩
   have e2:A1.putObj (B+1) (.loop { state:=.busy,pending:=none,fn,tmps:=a.tmps,params:=ps,assign,body,defers:=B })=A2:=by rw[hA2,hlp]
   rw[e2]
   have hs2:A2.heap.size=A1.heap.size:=by rw[hA2];simp
   have hl2:A2.heap[B+1]?=some (lp .busy none):=by rw[hA2];exact World.putObj_heap_same hlt1
   have hk2:A2.heap[B]?=some (.deferred (some [])):=by
    rw[hA2]
    exact (World.putObj_heap_other (by omega)).trans (t1.d.trans hk)
   have ax2:Ax c0 pre x a1 A2:=by rw[hA2];exact hAx c0 pre x a1 _ _ hlt1 ax
   refine wpIn_mono (hbody _ c0 pre x a1 A2 (by omega) hE ax2 hlen) ?_
   have fin:∀(jump:Option Code) (A3:World),Dl2 B A2 A3->∃A4,(Instr.endRound (B+1) jump).run P A3=.ok (.bool jump.isNone) A4/\A4=A3.putObj (B+1) (lp (if jump.isNone then .ready else .done) jump)/\A3.heap[B+1]?=some (lp .busy none)/\A4.heap[B+1]?=some (lp (if jump.isNone then .ready else .done) jump)/\A4.heap[B]?=some (.deferred (some [])):=fun jump A3 t3=>by
    have hl3:A3.heap[B+1]?=some (lp .busy none):=t3.l.trans hl2
    have hl3':=hl3
    rw[hlp]at hl3'
    refine⟨_,run_endRound (P:=P) jump hl3',?_,hl3,?_,?_⟩
    ·rw[hlp]
    ·rw[hlp]
     exact World.putObj_heap_same (Array.getElem?_eq_some_iff.1 hl3).1
    ·exact (World.putObj_heap_other (by omega)).trans (t3.d.trans hk2)
   rintro e a3 A3 hp
   cases e with
   | normal=>
    obtain⟨t3,hi3⟩:=hp
    obtain⟨A4,f1,f2,f3,f4,f5⟩:=fin none A3 t3
    refine⟨_,_,f1,.inl ⟨rfl,?_,?_⟩⟩
    ·rw[f2]
     exact hI _ _ _ _ (Array.getElem?_eq_some_iff.1 f3).1 hi3
    ·rw[hR]
     exact⟨f4,f5⟩
   | ret=>
    obtain⟨t3,hi3⟩:=hp
    obtain⟨A4,f1,f2,f3,f4,f5⟩:=fin (some .ret) A3 t3
    refine⟨_,_,f1,.inr ⟨rfl,.ret,?_,?_⟩⟩
    ·rw[f2]
     exact hIx _ _ _ _ _ (Array.getElem?_eq_some_iff.1 f3).1 hi3
    ·rw[hRx]
     exact⟨f4,f5⟩
   | exit id=>
    obtain⟨t3,hi3⟩:=hp
    obtain⟨A4,f1,f2,f3,f4,f5⟩:=fin (some (.exit id)) A3 t3
    refine⟨_,_,f1,.inr ⟨rfl,.exit id,?_,?_⟩⟩
    ·rw[f2]
     exact hIx _ _ _ _ _ (Array.getElem?_eq_some_iff.1 f3).1 hi3
    ·rw[hRx]
     exact⟨f4,f5⟩
   | goto t=>
    obtain⟨t3,hi3⟩:=hp
    obtain⟨A4,f1,f2,f3,f4,f5⟩:=fin (some (.goto t)) A3 t3
    refine⟨_,_,f1,.inr ⟨rfl,.goto t,?_,?_⟩⟩
    ·rw[f2]
     exact hIx _ _ _ _ _ (Array.getElem?_eq_some_iff.1 f3).1 hi3
    ·rw[hRx]
     exact⟨f4,f5⟩
   | panic ch=>exact hp.elim
   | outgrown=>exact hp.elim
  ·rintro e W2 ⟨⟨v,rfl⟩,(⟨c0,xs,hS,hi,hr⟩ | ⟨c0,pre,c,hSp,hi,hr⟩)⟩
   ·rw[hR]at hr
    have hl':=hr.1
    rw[hlp]at hl'
    refine⟨none,_,run_endLoop (P:=P) hl' (by simp),hdone B c0 xs _ rfl hS (hI _ _ _ _ (Array.getElem?_eq_some_iff.1 hl').1 hi) ((World.putObj_heap_other (by omega)).trans hr.2)⟩
   ·rw[hRx]at hr
    have hl':=hr.1
    rw[hlp]at hl'
    refine⟨some c,_,run_endLoop (P:=P) hl' (by simp),hstop B c0 c pre _ rfl hSp (hIx c0 c _ _ _ (Array.getElem?_eq_some_iff.1 hl').1 hi) ((World.putObj_heap_other (by omega)).trans hr.2)⟩
end Go.Proofs.YtlefjidbpjkhlaaGreat
