import Derived.Test.YtlefjidbpjkhlaaGreatK48
import Derived.Test.YtlefjidbpjkhlaaGreatK00
import Derived.Test.YtlefjidbpjkhlaaGreatK11
import Derived.Test.YtlefjidbpjkhlaaGreatK47
import Derived.Test.YtlefjidbpjkhlaaGreatK07
set_option maxRecDepth 100000
set_option maxHeartbeats 16000000
namespace Go.Proofs.YtlefjidbpjkhlaaGreat
variable {Y:Nat->Prop}
variable {W w:World}
variable {F:Cf}
variable {K N cp f f0 f1 i lo o r r0 r1 st sz t x:Nat}
variable {C:Nat->List Int}
variable {Fo Ov tv:Value}
variable {off:Bool}
variable {cs ct:Nat->Int}
variable {L:Nat->Option (List Int)}
variable {Ms:List (Nat->Option (List Int))}
variable {PO:Ending->World->Prop}
open Go.RowKit Go.Deep
def AgP (Y:Nat->Prop) (w:World) (F:Cf) (N:Nat) (C:Nat->List Int) (o:Nat) (Fo:Value) (f0 f1 r0 r1:Nat) (off:Bool) (w':World):Prop:=∃F' x0 x1 t Y',F'.nb=F.nb/\Idl Y' w' F' 2 N C/\Wlb w' o (wcs (.pointer (some ⟨F'.p,0,none⟩)) (.pointer (some ⟨F'.st,0,none⟩)) Fo (.pointer (some ⟨x0,0,none⟩)) (.pointer (some ⟨x1,0,none⟩)) f0 f1 r0 r1 (.pointer none) (.pointer (some ⟨t,0,none⟩)) off)/\(Spb w' x0 f0 r0 F'.st/\Spb w' x1 f1 r1 F'.st)/\(¬Y' x0/\¬Y' x1/\¬Y' o)/\(Txb w' t F'.j .nilIface F'.st (.pointer none)/\¬Y' t/\w.heap.size<=t)/\(∀k,Y' k->w.heap.size<=k)/\(w.heap.size<=x0/\w.heap.size<=x1)/\But (fun k=>Y k\/k=o) w w'
theorem agr_any{X0 X1:Value}{T:Value}(h:Idl Y w F K N C)(hw:Wlb w o (wcs (.pointer (some ⟨F.p,0,none⟩)) (.pointer (some ⟨F.st,0,none⟩)) Fo X0 X1 f0 f1 r0 r1 T Ov off))(hYo:¬Y o)(hf0:64<=f0/\f0<F.nb)(hf1:64<=f1/\f1<F.nb)(hr0:1<=r0/\r0<=262144)(hr1:1<=r1/\r1<=262144)(PO:Ending->World->Prop)(HP:∀w',AgP Y w F N C o Fo f0 f1 r0 r1 off w'->PO (.returned (.bool true)) w'):AgR o PO w:=by
 have hol:=hw.lt
 refine⟨F.st,hw.cell 1,⟨⟨_,hw.cell 9⟩,hw.frozen 9⟩,fun w1 hw1=>?_⟩
 have b1:But (fun k=>k=o) w w1:=by rw[hw1];exact but_set w o 9 _
 have wb1:Wlb w1 o (wcs (.pointer (some ⟨F.p,0,none⟩)) (.pointer (some ⟨F.st,0,none⟩)) Fo X0 X1 f0 f1 r0 r1 (.pointer none) Ov off):=by rw[hw1];exact hw.set 9 (.pointer none)
 have i1:=h.keep b1 (fun k _ e y=>hYo (e ▸ y))
 have s1:=b1.size
 refine Calls.mono i1.flushD ?_
 rintro e w2 ⟨Y2,d,s,home,Ts,rfl,i2,dk2,⟨hpu,hfu,hoff,hfits⟩,on2,hC2,hN2,g2,b2⟩
 have s2:=b2.size
 have wb2:=wb1.keep (b2.block o (by omega) hYo)
 have hnb:64<=F.nb/\F.nb<=524288:=by
  obtain⟨_,_,_,_,_,_,_,_,_,_,q1,q2⟩:=i2
  exact⟨q1,q2⟩
 refine⟨F.p,rfl,wb2.cell 0,Calls.mono (Image_any dk2) ?_⟩
 rintro e w3 ⟨g,c,rfl,hg,hO,b3⟩
 have s3:=b3.size
 refine⟨g,_,c,rfl,?_⟩
 rw[hfits.1]at hO ⊢
 refine Calls.mono (Open_ok ⟨g,0,none⟩ F.nb c d.img w3 (by omega) hnb.2 (hO.rd hfits.2.1)) ?_
 rintro e w4 ⟨p2,rfl,hp2,D4,b4⟩
 have s4:=b4.size
 have D4':Dk (fun x=>w3.heap.size<=x) w4 p2 d.img d.puts d.fu d.off F.nb:=by rw[hpu,hfu,hoff];exact D4
 refine⟨p2,rfl,Calls.mono (sstore_old D4' on2 hfu hfits hnb.1 hnb.2 hC2) ?_⟩
 rintro e w5 ⟨F',Y5,rfl,⟨hp5,hn5⟩,i5,y5,b5⟩
 have s5:=b5.size
 have wb3:=wb2.keep (b3.block o (by omega))
 have wb4:=wb3.keep (b4.block o (by omega))
 have wb5:=wb4.keep (b5.block o (by omega) (by omega))
 have y5':∀k,Y5 k->w.heap.size<=k:=fun k q=>by rcases y5 k q with q | q <;> omega
 refine⟨F'.st,rfl,⟨⟨_,wb5.cell 0⟩,wb5.frozen 0,⟨_,wb5.cell 1⟩,wb5.frozen 1⟩,fun w6 hw6=>?_⟩
 have b6:But (fun k=>k=o) w5 w6:=by rw[hw6];exact (but_set w5 o 0 _).trans (but_set _ o 1 _)
 have wb6:Wlb w6 o (wcs (.pointer (some ⟨p2,0,none⟩)) (.pointer (some ⟨F'.st,0,none⟩)) Fo X0 X1 f0 f1 r0 r1 (.pointer none) Ov off):=by rw[hw6];exact (wb5.set 0 (.pointer (some ⟨p2,0,none⟩))).set 1 (.pointer (some ⟨F'.st,0,none⟩))
 have no5:¬Y5 o:=fun q=>by have:=y5' o q;omega
 have i6:=i5.keep b6 (fun k _ e y=>no5 (e ▸ y))
 have s6:=b6.size
 refine Calls.mono i6.begin ?_
 rintro e w7 ⟨t,Y7,rfl,o7,ht7,g7,b7⟩
 have s7:=b7.size
 refine⟨t,rfl,Calls.mono o7.abort ?_⟩
 rintro e w8 ⟨Y8,rfl,i8,tx8,nt8,g8,b8⟩
 have s8:=b8.size
 have no7:¬Y7 o:=fun q=>no5 (g7 o (by omega) q)
 have no8:¬Y8 o:=fun q=>no7 (g8 o (by omega) q)
 have wb8:=(wb6.keep (b7.block o (by omega) no5)).keep (b8.block o (by omega) no7)
 refine⟨rfl,⟨⟨_,wb8.cell 10⟩,wb8.frozen 10⟩,fun w9 hw9=>?_⟩
 have b9:But (fun k=>k=o) w8 w9:=by rw[hw9];exact but_set w8 o 10 _
 have s9:=b9.size
 have wb9:Wlb w9 o (wcs (.pointer (some ⟨F'.p,0,none⟩)) (.pointer (some ⟨F'.st,0,none⟩)) Fo X0 X1 f0 f1 r0 r1 (.pointer none) (.pointer (some ⟨t,0,none⟩)) off):=by
  rw[hw9,hp5]
  exact wb8.set 10 (.pointer (some ⟨t,0,none⟩))
 have i9:=i8.keep b9 (fun k _ e y=>no8 (e ▸ y))
 refine Calls.mono (wopen_any i9 wb9 no8 (by omega) (by rw[hn5];exact hf0) (by rw[hn5];exact hf1) hr0 hr1) ?_
 rintro e w10 ⟨x0,x1,Y10,rfl,i10,wb10,sp0,sp1,⟨l0,l1,n0,n1⟩,g10,b10⟩
 have tl:=tx8.lt
 have hto:t≠o:=by omega
 have tx9:=tx8.keep (b9.block t tl hto)
 have tx10:=tx9.keep (b10.block t (by omega) (fun q=>q.elim nt8 hto))
 have gg:∀k,Y10 k->w.heap.size<=k:=fun k q=>by
  rcases Nat.lt_or_ge k w.heap.size with hk | hk
  ·have:=y5' k (g7 k (by omega) (g8 k (by omega) (g10 k (by omega) q)))
   omega
  ·exact hk
 obtain⟨d10,s10',home10,Ts10,a1,a2,a3,a4,a5,a6,a7,a8⟩:=i10
 refine⟨rfl,HP w10 ⟨F',x0,x1,t,Y10,hn5,⟨d10,s10',home10,Ts10,a1,a2,a3,by omega,by rw[hn5]at a5 ⊢;exact a5,a6,a7,a8⟩,wb10,⟨sp0,sp1⟩,⟨n0,n1,fun q=>by have:=gg o q;omega⟩,⟨tx10,fun q=>nt8 (g10 t (by omega) q),by omega⟩,gg,⟨by omega,by omega⟩,?_⟩⟩
 have hX:∀k,k<w.heap.size->Y5 k->False:=fun k hk q=>by have:=y5' k q;omega
 have B2:But (fun k=>Y k\/k=o) w w2:=(b1.mono (fun k _ e=>.inr e)).trans (b2.mono (fun k _ e=>.inl e))
 have B5:But (fun k=>Y k\/k=o) w w5:=(B2.trans (But.of_below b3)).trans (But.of_below b4) |>.comp b5 (fun k hk q=>by omega)
 have B6:But (fun k=>Y k\/k=o) w w6:=B5.trans (b6.mono (fun k _ e=>.inr e))
 have B7:=B6.comp b7 (fun k hk q=>(hX k hk q).elim)
 have B8:=B7.comp b8 (fun k hk q=>(hX k hk (g7 k (by omega) q)).elim)
 have B9:=B8.trans (b9.mono (fun k _ e=>.inr e))
 exact B9.comp b10 (fun k hk q=>q.elim (fun q=>(hX k hk (g7 k (by omega) (g8 k (by omega) q))).elim) (fun q=>.inr q))
open Go.RowKit Go.Deep
theorem SameBytes_eq(B:Nat)(a a2:Option Addr)(n c n2 c2:Nat)(zs:List Int)(w:World)(h:Rd B w a n zs)(h2:Rd B w a2 n2 zs) :
  Calls Tryz.prog 31 #[.slice a n c,.slice a2 n2 c2] w fun e w'=>e=.returned (.bool true)/\w'=w:=by
 have e1:=conv_str h c
 have e2:=conv_str h2 c2
 generalize strOfNums zs=s at *
 go_enter Tryz.func31,Tryz.ntmps31
 go_wp2
 go_ret
 exact⟨by simp,rfl⟩
theorem SameInts_eq(B:Nat)(a a2:Option Addr)(n c c2:Nat)(zs:List Int)(w:World)(hB:B<=w.heap.size)(hn:n<=134217728)(h:RdI B w a n zs)(h2:RdI B w a2 n zs) :
  Calls Tryz.prog 28 #[.slice a n c,.slice a2 n c2] w fun e w'=>e=.returned (.bool true)/\Below w.heap.size w w':=by
 go_enter Tryz.func28,Tryz.ntmps28
 go_wp2
 go_loopw [5] (fun i wr=>∃k:Nat,k<=n/\i=.int .i64 (k:Int)/\Below w.heap.size w wr) (fun i _=>n-(intOf i).toNat)
 case atStart=>exact⟨0,Nat.zero_le _,rfl,Below.refl _ _⟩
 case round=>
  obtain⟨k,hk,rfl,hbr⟩:=hrel
  by_cases hkn:k<n
  ·obtain⟨b,off,rfl,hb,hc⟩:=h.2.resolve_left (by omega)
   obtain⟨b2,off2,rfl,hb2,hc2⟩:=h2.2.resolve_left (by omega)
   have c1:=(hbr.cell (p:=⟨b,off+k,none⟩) (Nat.lt_of_lt_of_le hb hB)).trans (hc k hkn)
   have c2:=(hbr.cell (p:=⟨b2,off2+k,none⟩) (Nat.lt_of_lt_of_le hb2 hB)).trans (hc2 k hkn)
   clear hc hc2 h h2
   generalize zs.getD k 0=z at *
   have hk1:(k:Int)<(n:Int):=by omega
   go_wp2
   go_region
   all_goals go_wp2
   all_goals
    go_roundw
    case rel=>exact⟨k+1,by omega,by go_num,hbr.drew⟩
    case measure=>simp[intOf];omega
  ·go_wp2
   go_ret
   exact⟨rfl,hbr⟩
theorem rNew_ok(r c:Nat)(hr:1<=r/\r<=262144)(hc:1<=c/\c<=r)(w:World) :
  Calls Tryz.prog 51 #[.int .i64 (r:Int),.int .i64 (c:Int)] w fun e w'=>∃tv,e=.returned (.tuple #[.agg #[tv,.int .i64 (c:Int)],.int .i64 0])/\w'.ownsRow w.heap.size 3 1 tv r (List.replicate r (.int .i64 0))/\Below w.heap.size w w':=by
 have n1:¬(r:Int)<1:=by omega
 have n2:¬262144<(r:Int):=by omega
 have n3:¬(c:Int)<1:=by omega
 have n4:¬(r:Int)<(c:Int):=by omega
 have hmk:=fun u=>make_i64 r (by omega) u
 have hh:=heap2 w (.cells #[.slice (some ⟨w.heap.size+1,0,none⟩) r r,.int .i64 (c:Int)] 107) (.cells ((zeros r).map (Value.int .i64)).toArray 3)
 have FIN:Hid (∃tv,(.returned (.tuple #[.agg #[.slice (some ⟨w.heap.size+1,0,none⟩) r r,.int .i64 (c:Int)],.int .i64 0]):Ending)=.returned (.tuple #[.agg #[tv,.int .i64 (c:Int)],.int .i64 0])/\((w.alloc (.cells #[.slice (some ⟨w.heap.size+1,0,none⟩) r r,.int .i64 (c:Int)] 107)).alloc (.cells ((zeros r).map (Value.int .i64)).toArray 3)).ownsRow w.heap.size 3 1 tv r (List.replicate r (.int .i64 0))/\Below w.heap.size w ((w.alloc (.cells #[.slice (some ⟨w.heap.size+1,0,none⟩) r r,.int .i64 (c:Int)] 107)).alloc (.cells ((zeros r).map (Value.int .i64)).toArray 3))):=by
  have bA:Below w.heap.size w ((w.alloc (.cells #[.slice (some ⟨w.heap.size+1,0,none⟩) r r,.int .i64 (c:Int)] 107)).alloc (.cells ((zeros r).map (Value.int .i64)).toArray 3)):=((Below.refl _ _).alloc (Nat.le_refl _) _).alloc (by simp) _
  refine⟨_,rfl,⟨by simp,.inr ⟨w.heap.size+1,r,_,rfl,by omega,hh.2,Nat.le_refl _,by unfold maxLen;omega,by simp[zeros],?_⟩⟩,bA⟩
  simp[zeros]
 go_enter Tryz.func51,Tryz.ntmps51
 go_wp2
 (try simp only[Exit.inBlock,Exit.then])
 exact bodyPost_ret (results_row_tmp rfl _ _ w.heap.size 107 #[.slice (some ⟨w.heap.size+1,0,none⟩) r r,.int .i64 (c:Int)] (0,0) _ (.int .i64 0) rfl rfl hh.1 Tryz.underlying107 rfl (by kernel_rfl)) rfl FIN.out
open Go.RowKit Go.Deep
def cntL (cs ct:Nat->Int) (sz:Nat):List Int:=(sz:Int) :: ((frA cs ct sz).length:Int) :: (List.range sz).map (fun i=>cs (i+1))
theorem cntL_len(cs ct:Nat->Int)(sz:Nat):(cntL cs ct sz).length=sz+2:=by simp[cntL]
theorem cntL_take(hi:i<sz):(cntL cs ct sz).take (i+2+1)=(cntL cs ct sz).take (i+2)++[cs (i+1)]:=by
 have h:(cntL cs ct sz)[i+2]?=some (cs (i+1)):=by
  unfold cntL
  simp[hi]
 rw[List.take_add_one,h]
 rfl
def CnI (Y:Nat->Prop) (w:World) (F:Cf) (Z N:Nat) (C:Nat->List Int) (t:Nat) (L:Nat->Option (List Int)) (Ms:List (Nat->Option (List Int))) (sz:Nat) (cs ct:Nat->Int) (i:Nat) (tv:Value) (W:World):Prop :=
 ∃Y',W.ownsRow w.heap.size 3 1 tv (i+2) (((cntL cs ct sz).take (i+2)).map (Value.int .i64))/\(∀q,tv.ownBlock=some q->¬Y' q)/\OpnZ Y' W F (Z+i+2) N C t L Ms/\Gr Y Y' w/\But Y w W
theorem CnI.round{Z:Nat}(h:CnI Y w F Z N C t L Ms sz cs ct i tv W)(hsp:Spb w x f r F.st)(hx:¬Y x)(hZ:Z+sz+3<16000000)(hT:Tst C L f r F.nb Z sz cs ct)(hi:i<sz) :
  Calls Tryz.prog 46 #[.pointer (some ⟨x,0,none⟩),.pointer (some ⟨t,0,none⟩),.int .i64 ((i:Int)+1)] W fun e w2=>e=.returned (.tuple #[.int .i64 (cs (i+1)),.int .i64 0])/\∃v' w3,(Builtin.append_ #[37,37] 37 #[tv,.slice (some ⟨w2.heap.size,0,none⟩) 1 1]).run Tryz.prog (w2.alloc (.cells #[.int .i64 (cs (i+1))] 3))=.ok v' w3/\CnI Y w F Z N C t L Ms sz cs ct (i+1) v' w3:=by
 obtain⟨Y',h1,h2,h3,h8,h9⟩:=h
 have hxl:=hsp.lt
 have s9:=h9.size
 have hsz:=hT.sz1
 have hr:=hT.hP.hr
 have sp1:=hsp.keep (h9.block x hxl hx)
 have hx1:¬Y' x:=fun q=>hx (h8 x hxl q)
 refine Calls.mono (h3.count sp1 hx1 (by omega) (hT.mono (by omega)) ((i:Int)+1)) ?_
 rintro e w2 ⟨Y2,rfl,q1,q2,b2⟩
 rw[if_pos (by omega),if_pos (by omega),show ((i:Int)+1).toNat=i+1 from by omega]
 refine⟨rfl,?_⟩
 have s2:=b2.size
 have hown2:w2.ownsRow w.heap.size 3 1 tv (i+2) (((cntL cs ct sz).take (i+2)).map (Value.int .i64)):=owns_keep h1 (fun g' e=>b2.block g' (World.ownsRow.lt h1 g' e).2 (h2 g' e))
 obtain⟨i0,hi3,hz0,hz1,hz2⟩:=info_parts info3
 obtain⟨v',w3,hrun,hown,hgr,_,hob⟩:=run_append_own_at (P:=Tryz.prog) (w2.alloc (.cells #[.int .i64 (cs (i+1))] 3)) w.heap.size 37 37 3 i0 (.int .i64 0) 1 8 Tryz.underlying37 hi3 hz0 hz1 hz2 rfl (by decide) tv (i+2) _ (hown2.alloc _) ⟨w2.heap.size,0,none⟩ 1 1 [.int .i64 (cs (i+1))] rfl (cell_one_new _ _ _) (by simp[Value.oneCell']) (by unfold maxLen;omega) (by omega) (by simp;omega)
 refine⟨v',w3,hrun,?_⟩
 have bX:But (fun q=>tv.ownBlock=some q\/w2.heap.size<=q) w2 w3:=((But.refl (fun q=>tv.ownBlock=some q\/w2.heap.size<=q) w2).alloc _).of_grown hgr (fun x e _=>.inl e)
 have hY2:∀q,tv.ownBlock=some q->¬Y2 q:=fun q e e2=>h2 q e (q2 q (World.ownsRow.lt h1 q e).2 e2)
 have hlt2:=q1.lt
 refine⟨Y2,?_,fun q e e2=>?_,(q1.keep bX (fun k hk e e2=>?_)).mono (by omega),fun q hq e=>h8 q hq (q2 q (by omega) e),?_⟩
 ·rw[show i+1+2=i+2+1 from by omega,cntL_take hi,List.map_append]
  exact hown
 ·have hl:=hlt2 q e2
  rw[e]at hob
  rcases hob with hob | hob
  ·exact hY2 q hob.symm e2
  ·injection hob with hob
   rw[hob]at hl
   simp at hl
   omega
 ·rcases e with e | e
  ·exact hY2 k e e2
  ·omega
 ·refine (h9.comp b2 (fun q hq e=>h8 q hq e)).comp bX (fun q hq e=>?_)
  rcases e with e | e
  ·have:=(World.ownsRow.lt h1 q e).1
   omega
  ·omega
theorem counted_any{Z:Nat}(h:OpnZ Y w F Z N C t L Ms)(hsp:Spb w x f r F.st)(hx:¬Y x)(hZ:Z+sz+3<16000000)(hT:Tst C L f r F.nb Z sz cs ct) :
  Calls Tryz.prog 23 #[.pointer (some ⟨x,0,none⟩),.pointer (some ⟨t,0,none⟩)] w fun e w'=>∃tv Y',e=.returned tv/\w'.ownsRow w.heap.size 3 1 tv (sz+2) (((cntL cs ct sz)).map (Value.int .i64))/\(∀q,tv.ownBlock=some q->¬Y' q)/\OpnZ Y' w' F (Z+sz+2) N C t L Ms/\Gr Y Y' w/\But Y w w':=by
 refine poz fun PO hPO=>?_
 have hsz:=hT.sz1
 have hr:=hT.hP.hr
 have hxl:=hsp.lt
 obtain⟨fl,hfl⟩:∃fl:Int,fl=((frA cs ct sz).length:Int):=⟨_,rfl⟩
 obtain⟨DI,hDI⟩:∃DI:Nat->Value->World->Prop,DI=CnI Y w F Z N C t L Ms sz cs ct:=⟨_,rfl⟩
 have HF0:Hid (Calls Tryz.prog 19 #[.pointer (some ⟨x,0,none⟩),.pointer (some ⟨t,0,none⟩)] w fun e w1=>e=.returned (.tuple #[.int .i64 (sz:Int),.int .i64 0])/\Calls Tryz.prog 39 #[.pointer (some ⟨x,0,none⟩),.pointer (some ⟨t,0,none⟩)] w1 fun e w2=>e=.returned (.tuple #[.int .i64 fl,.int .i64 0])/\DI 0 (.slice (some ⟨w2.heap.size,0,none⟩) 2 2) (w2.alloc (.cells #[.int .i64 (sz:Int),.int .i64 fl] 3))):=by
  refine Calls.mono (h.size hsp hx (by omega) hT) ?_
  rintro e w1 ⟨Y1,rfl,q1,q2,q3⟩
  have s3:=q3.size
  refine⟨rfl,Calls.mono (q1.free (hsp.keep (q3.block x hxl hx)) (fun q=>hx (q2 x hxl q)) (by omega) (hT.mono (by omega))) ?_⟩
  rintro e w2 ⟨Y2,rfl,k1,k2,k3⟩
  rw[<- hfl,hDI]
  have s2:=k3.size
  have bA:Below w2.heap.size w2 (w2.alloc (.cells #[.int .i64 (sz:Int),.int .i64 fl] 3)):=(Below.refl _ _).alloc (Nat.le_refl _) _
  have g2:Gr Y Y2 w:=fun q hq e=>q2 q hq (k2 q (by omega) e)
  refine⟨rfl,Y2,⟨by simp[cntL],.inr ⟨w2.heap.size,2,#[.int .i64 (sz:Int),.int .i64 fl],rfl,by omega,Array.getElem?_push_size,by omega,by decide,rfl,?_⟩⟩,fun q e e2=>?_,(k1.below bA).mono (by omega),g2,(q3.comp k3 (fun q hq e=>q2 q hq e)).comp (But.of_below bA (X:=fun _=>False)) (fun _ _ q=>q.elim)⟩
  ·simp[cntL,hfl]
  ·have:=k1.lt q e2
   have hq:w2.heap.size=q:=Option.some.inj e
   omega
 have HR:Hid (∀i tv W,DI i tv W->i<sz->Calls Tryz.prog 46 #[.pointer (some ⟨x,0,none⟩),.pointer (some ⟨t,0,none⟩),.int .i64 ((i:Int)+1)] W fun e w2=>e=.returned (.tuple #[.int .i64 (cs (i+1)),.int .i64 0])/\∃v' w3,(Builtin.append_ #[37,37] 37 #[tv,.slice (some ⟨w2.heap.size,0,none⟩) 1 1]).run Tryz.prog (w2.alloc (.cells #[.int .i64 (cs (i+1))] 3))=.ok v' w3/\DI (i+1) v' w3):=fun i tv W hd hi=>by
  rw[hDI]at hd ⊢
  exact hd.round hsp hx hZ hT hi
 have HE:Hid (∀tv W,DI sz tv W->PO (.returned tv) W):=fun tv W hd=>by
  rw[hDI]at hd
  obtain⟨Y',h1,h2,h3,h8,h9⟩:=hd
  rw[hPO]
  rw[List.take_of_length_le (by rw[cntL_len];omega)]at h1
  exact⟨tv,Y',rfl,h1,h2,h3,h8,h9⟩
 have hs1:¬262144<(sz:Int):=by omega
 have hs2:sz<=262144:=by omega
 clear h hsp hx hZ hT hDI hPO hfl hsz hr hxl
 go_enter Tryz.func23,Tryz.ntmps23
 go_wp2_with fail
 refine Calls.mono HF0.out ?_
 rintro e w1 ⟨rfl,h2⟩
 have H2:=hid h2
 clear h2 HF0
 go_wp2_with fail
 refine Calls.mono H2.out ?_
 rintro e w2 ⟨rfl,hd0⟩
 have HD0:=hid hd0
 clear hd0 H2
 go_wp2_with fail
 refine Calls.mono (num_any 0 w2) ?_
 rintro e w9 ⟨rfl,hw9⟩
 rw[hw9]
 clear hw9
 go_wp2_with fail
 refine Calls.mono (num_any 0 w2) ?_
 rintro e w9 ⟨rfl,hw9⟩
 rw[hw9]
 clear hw9
 go_wp2_with fail
 go_loopw [9,10] (fun gv iv wr=>∃i:Nat,i<=sz/\iv=.int .i64 ((i:Int)+1)/\DI i gv wr) (fun _ iv _=>sz+1-(intOf iv).toNat)
 case atStart=>exact⟨0,Nat.zero_le _,rfl,HD0.out⟩
 case round=>
  clear HD0
  rename World=>wo
  obtain⟨i,hiM,rfl,hd⟩:=hrel
  by_cases hi:i<sz
  ·have hi':(i:Int)+1<=(sz:Int):=by omega
   have HC:=hid (HR.out i _ _ hd hi)
   clear HR HE hd
   go_wp2_with fail
   refine Calls.mono HC.out ?_
   rintro e w3 ⟨rfl,v',w4,hrun,hd3⟩
   have HD3:=hid hd3
   clear hd3 HC
   go_wp2_with fail
   refine Calls.mono (num_any 0 w3) ?_
   rintro e w9 ⟨rfl,hw9⟩
   rw[hw9]
   clear hw9
   go_wp2_with (at_builtin;refine Lib.wpList_append_run _ rfl _ _ _ _ rfl _ _ rfl rfl _ _ hrun ?_)
   go_roundw
   case rel=>exact⟨i+1,by omega,by go_num,HD3.out⟩
   case measure=>simp[intOf];omega
  ·have hi':¬(i:Int)+1<=(sz:Int):=by omega
   have hie:i=sz:=by omega
   subst hie
   have FIN:=hid (HE.out _ _ hd)
   clear HR HE hd
   go_wp2
   exact FIN.out
open Go.RowKit Go.Deep
def MkC2 (t:Nat) (PO:Ending->World->Prop) (w:World):Prop:=Calls Tryz.prog 13 #[.pointer (some ⟨t,0,none⟩)] w fun e w1=>e=.returned (.int .i64 0)/\PO (.returned (.bool true)) w1
def MkC1 (t ab:Nat) (a1:Int) (PO:Ending->World->Prop) (w:World):Prop:=(w.drew.cell? ⟨ab,1,none⟩=some (.int .i64 a1))/\Calls Tryz.prog 32 #[.int .i64 901] w.drew fun e w1=>∃g,e=.returned (.slice (some ⟨g,0,none⟩) 512 512)/\(w1.cell? ⟨ab,1,none⟩=some (.int .i64 a1))/\Calls Tryz.prog 52 #[.pointer (some ⟨t,0,none⟩),.int .i64 a1,.slice (some ⟨g,0,none⟩) 512 512] w1 fun e w2=>e=.returned (.int .i64 0)/\(w2.cell? ⟨ab,1,none⟩=some (.int .i64 a1))/\MkC2 t PO w2
def MkC0 (t ab:Nat) (a0 a1:Int) (PO:Ending->World->Prop) (w:World):Prop:=(w.drew.cell? ⟨ab,0,none⟩=some (.int .i64 a0))/\Calls Tryz.prog 32 #[.int .i64 900] w.drew fun e w1=>∃g,e=.returned (.slice (some ⟨g,0,none⟩) 512 512)/\(w1.cell? ⟨ab,0,none⟩=some (.int .i64 a0))/\Calls Tryz.prog 52 #[.pointer (some ⟨t,0,none⟩),.int .i64 a0,.slice (some ⟨g,0,none⟩) 512 512] w1 fun e w2=>e=.returned (.int .i64 0)/\(w2.cell? ⟨ab,0,none⟩=some (.int .i64 a0))/\MkC1 t ab a1 PO w2
theorem marked_walk{ab:Nat}{a0 a1:Int}(k1:w.cell? ⟨o,1,none⟩=some (.pointer (some ⟨st,0,none⟩)))(H:Calls Tryz.prog 9 #[.pointer (some ⟨st,0,none⟩)] w fun e w1=>∃t,e=.returned (.tuple #[.pointer (some ⟨t,0,none⟩),.int .i64 0])/\MkC0 t ab a0 a1 PO w1) :
  Calls Tryz.prog 22 #[.pointer (some ⟨o,0,none⟩),.slice (some ⟨ab,0,none⟩) 2 cp] w PO:=by
 have H1:=hid H
 clear H
 go_enter Tryz.func22,Tryz.ntmps22
 go_wp2_with fail
 refine Calls.mono H1.out ?_
 rintro e w1 ⟨t,rfl,h2⟩
 have H2:=hid h2
 clear h2 H1 k1
 go_wp2_with fail
 refine Calls.mono (num_any 0 w1) ?_
 rintro e w9 ⟨rfl,hw9⟩
 rw[hw9]
 clear hw9
 go_wp2_with fail
 go_loopw [7] (fun iv wr=>∃q:Nat,q<=2/\iv=.int .i64 (q:Int)/\((q=0/\MkC0 t ab a0 a1 PO wr)\/(q=1/\MkC1 t ab a1 PO wr)\/(q=2/\MkC2 t PO wr))) (fun iv _=>2-(intOf iv).toNat)
 case atStart=>exact⟨0,by decide,rfl,.inl ⟨rfl,H2.out⟩⟩
 case round=>
  clear H2
  rename World=>wo
  obtain⟨q,hq2,rfl,hR⟩:=hrel
  rcases hR with ⟨hq,hR⟩ | ⟨hq,hR⟩ | ⟨hq,hR⟩
  ·subst hq
   obtain⟨kS,hcall⟩:=hR
   have HC:=hid hcall
   clear hcall
   go_wp2_with fail
   refine Gz (S:=fun w'=>w'.cell? ⟨ab,0,none⟩=some (.int .i64 a0)) kS (fun hSS=>?_)
   refine Ti 0 rfl ?_
   refine Ti 1 rfl ?_
   refine Ti 2 rfl ?_
   refine Ti 3 rfl ?_
   refine Ti 4 rfl ?_
   refine Ti 5 rfl ?_
   try simp only[Act.put,zA,zB,zC]
   refine Ti 6 rfl ?_
   try simp only[Act.put,zA,zB,zC]
   refine Ri 7 rfl (fun K9 hK9=>?_)
   go_simp
   go_at_call 32
   refine Calls.mono HC.out ?_
   rintro e w1 ⟨g,rfl,hk1,h3⟩
   have H3:=hid h3
   clear h3 HC
   refine hK9.out _ _ hk1 (fun hSS=>?_)
   try simp only[Act.put,zA,zB,zC]
   refine Ri 8 rfl (fun K9 hK9=>?_)
   go_simp
   go_at_call 52
   refine Calls.mono H3.out ?_
   rintro e w2 ⟨rfl,hk2,h4⟩
   have NX:=hid h4
   clear h4 H3
   refine hK9.out _ _ hk2 (fun hSS=>?_)
   try simp only[Act.put,zA,zB,zC]
   refine Ri 9 rfl (fun K9 hK9=>?_)
   go_simp
   go_at_call 11
   refine Calls.mono (num_any 0 w2) ?_
   rintro e w9 ⟨rfl,hw9⟩
   rw[hw9]
   clear hw9
   refine hK9.out _ _ hk2 (fun hSS=>?_)
   try simp only[Act.put,zA,zB,zC]
   refine Ti 10 rfl ?_
   try simp only[Act.put,zA,zB,zC]
   refine Dn ?_
   clear hSS kS hk1 hk2
   go_wp2_with fail
   go_roundw
   case rel=>exact⟨1,by decide,by go_num,.inr (.inl ⟨rfl,NX.out⟩)⟩
   case measure=>simp[intOf]
  ·subst hq
   obtain⟨kS,hcall⟩:=hR
   have HC:=hid hcall
   clear hcall
   go_wp2_with fail
   refine Gz (S:=fun w'=>w'.cell? ⟨ab,1,none⟩=some (.int .i64 a1)) kS (fun hSS=>?_)
   refine Ti 0 rfl ?_
   refine Ti 1 rfl ?_
   refine Ti 2 rfl ?_
   refine Ti 3 rfl ?_
   refine Ti 4 rfl ?_
   refine Ti 5 rfl ?_
   try simp only[Act.put,zA,zB,zC]
   refine Ti 6 rfl ?_
   try simp only[Act.put,zA,zB,zC]
   refine Ri 7 rfl (fun K9 hK9=>?_)
   go_simp
   go_at_call 32
   refine Calls.mono HC.out ?_
   rintro e w1 ⟨g,rfl,hk1,h3⟩
   have H3:=hid h3
   clear h3 HC
   refine hK9.out _ _ hk1 (fun hSS=>?_)
   try simp only[Act.put,zA,zB,zC]
   refine Ri 8 rfl (fun K9 hK9=>?_)
   go_simp
   go_at_call 52
   refine Calls.mono H3.out ?_
   rintro e w2 ⟨rfl,hk2,h4⟩
   have NX:=hid h4
   clear h4 H3
   refine hK9.out _ _ hk2 (fun hSS=>?_)
   try simp only[Act.put,zA,zB,zC]
   refine Ri 9 rfl (fun K9 hK9=>?_)
   go_simp
   go_at_call 11
   refine Calls.mono (num_any 0 w2) ?_
   rintro e w9 ⟨rfl,hw9⟩
   rw[hw9]
   clear hw9
   refine hK9.out _ _ hk2 (fun hSS=>?_)
   try simp only[Act.put,zA,zB,zC]
   refine Ti 10 rfl ?_
   try simp only[Act.put,zA,zB,zC]
   refine Dn ?_
   clear hSS kS hk1 hk2
   go_wp2_with fail
   go_roundw
   case rel=>exact⟨2,by decide,by go_num,.inr (.inr ⟨rfl,NX.out⟩)⟩
   case measure=>simp[intOf]
  ·subst hq
   have HC:=hid hR
   clear hR
   go_wp2_with fail
   refine Calls.mono HC.out ?_
   rintro e w1 ⟨rfl,h2⟩
   have FIN:=hid h2
   clear h2 HC
   go_wp2_with fail
   refine Calls.mono (num_any 0 w1) ?_
   rintro e w9 ⟨rfl,hw9⟩
   rw[hw9]
   clear hw9
   go_wp2
   exact FIN.out
open Go.RowKit Go.Deep
section
variable {Y:Nat->Prop} {w:World} {F:Cf} {Z N:Nat} {C:Nat->List Int} {t:Nat} {L:Nat->Option (List Int)} {Ms:List (Nat->Option (List Int))} {x f r sz:Nat} {cs ct:Nat->Int}
end
open Go.RowKit Go.Deep
open Go.RowKit Go.Deep
section
variable {w0:World} {o x0:Nat} {F:Cf} {r c:Nat} {ob:Obj} {zb nb:Nat} {tv:Value} {bs:List Nat} {cs:Nat->Int} {W:World}
end
def inN (lo hi:Nat) (x:Int):Nat:=lo+into (hi+1-lo) x
theorem inN_lo(lo hi:Nat)(x:Int):lo<=inN lo hi x:=by unfold inN;omega
theorem inN_hi{hi:Nat}(x:Int)(h:lo<=hi):inN lo hi x<=hi:=by have:=into_lt (m:=hi+1-lo) x (by omega);unfold inN;omega
theorem within_any(x:Int)(lo hi:Nat)(h:lo<=hi)(hh:hi<=1000000)(w:World):Calls Tryz.prog 7 #[.int .i64 x,.int .i64 (lo:Int),.int .i64 (hi:Int)] w fun q w'=>q=.returned (.int .i64 (inN lo hi x:Int))/\w'=w:=by
 have e0:(hi:Int)-(lo:Int)+1=((hi+1-lo:Nat):Int):=by omega
 have e1:=into_eq (hi+1-lo) x
 have e2:=into_lt (m:=hi+1-lo) x (by omega)
 have e3:(inN lo hi x:Int)=(lo:Int)+(into (hi+1-lo) x:Int):=by unfold inN;omega
 rw[e3]
 generalize into (hi+1-lo) x=z at *
 generalize hM:hi+1-lo=M at *
 have p1:=and62_pos x
 go_enter Tryz.func7,Tryz.ntmps7
 go_wp2
 go_ret
 exact⟨rfl,rfl⟩
end Go.Proofs.YtlefjidbpjkhlaaGreat
