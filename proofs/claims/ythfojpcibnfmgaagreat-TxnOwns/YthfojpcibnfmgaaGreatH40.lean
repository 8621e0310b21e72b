import Derived.Test.YthfojpcibnfmgaaGreatH39
set_option maxRecDepth 100000
set_option maxHeartbeats 16000000
namespace Go.Proofs.YthfojpcibnfmgaaGreat
variable {w w' w2:World}
variable {K' L M k n:Nat}
variable {X Y Y':Nat->Prop}
variable {zs:List Int}
variable {rv tv u:Value}
variable {who:Option Bool}
open Go.RowKit
theorem Lend_old {D:DV} (L G M:Nat) (N:Int) (a:Option Addr) (n c:Nat) (ys0 zs:List Int) (w:World) (hn:n<=16777216) (hB0:Blk .u8 5 w G ys0) (hl0:ys0.length=M) (hL0:Lnd D w L (.slice (some ⟨G,0,none⟩) M M) N) (hGL:L≠G) (hM:2 * n+70<=M) (hM2:M<=1073741824)
  (hR:RdN (fun x=>x=L\/x=G) w a n zs) :
  Calls Tryz.prog 118 #[.pointer (some ⟨L,5,none⟩),.slice a n c] w fun e w'=>∃(G' M':Nat) (ys:List Int),e=.returned (.slice (some ⟨G',0,none⟩) n (2 * n+70))/\Blk .u8 5 w' G' ys/\ys.length=M'/\ys.take (2 * n+70)=lent zs/\Lnd D w' L (.slice (some ⟨G',0,none⟩) M' M') n/\G'=G/\M'=M/\But (fun x=>x=L\/x=G) w w':=by
 obtain⟨hzl,hzb,hsrc⟩:=hR
 obtain⟨W,hW⟩:∃W,W=w:=⟨_,rfl⟩
 subst hW
 have hbuf0:=hL0.buf
 have hlt:¬((M:Int)<2 * (n:Int)+70):=by omega
 go_enter Tryz.func118,Tryz.ntmps118
 go_wp2
 clear hbuf0 hlt
 go_loopw [5] (fun i wt=>∃(k:Nat) (ys:List Int),k<=n/\i=.int .i64 (k:Int)/\Blk .u8 5 wt G ys/\ys.length=M/\ys.take k=(lent zs).take k/\Lnd D wt L (.slice (some ⟨G,0,none⟩) M M) N/\But (fun x=>x=L\/x=G) W wt) (fun i _=>n-(intOf i).toNat)
 case atStart=>exact⟨0,ys0,Nat.zero_le _,rfl,hB0,hl0,rfl,hL0,But.refl _ _⟩
 case round=>
  obtain⟨k,ys,hk,rfl,hB,hyl,htk,hL,hbt⟩:=hrel
  by_cases hkn:k<n
  ·obtain⟨b,off,rfl,hb,hbx,hc⟩:=hsrc.resolve_left (by omega)
   have hcs:=(hbt.cell (p:=⟨b,off+k,none⟩) hb hbx).trans (hc k hkn)
   have hbuf:=hL.buf
   have hcell:=hB.cell k (by omega)
   have hfr:=hB.frozen k
   have hk1:(k:Int)<(n:Int):=by omega
   have hk2:(k:Int)<(M:Int):=by omega
   have HB:=hid (hB.set k (zs.getD k 0))
   have HT:=hid (take_set (ys:=ys) (k:=k) (z:=zs.getD k 0) (l:=lent zs) (by omega) (by rw[length_lent];omega) htk (lent_lo (by omega)).symm)
   have HL:=hid (hL.setOther (p:=⟨G,k,none⟩) (by exact hGL) (.int .u8 (zs.getD k 0)))
   have Hb:=hid (hbt.setCell (p:=⟨G,k,none⟩) (.inr rfl) (.int .u8 (zs.getD k 0)))
   have Hyl:=hid hyl
   generalize ys.getD k 0=old at *
   generalize zs.getD k 0=z at *
   clear hB htk hL hbt hc hyl hsrc
   go_wp2
   go_region
   all_goals go_wp2
   all_goals
    go_roundw
    case rel=>exact⟨k+1,_,by omega,by go_num,HB.out.drew,by simpa using Hyl.out,HT.out,HL.out,Hb.out.drew⟩
    case measure=>simp[intOf];omega
  ·have e:k=n:=by omega
   subst e
   clear hkn hk
   go_wp2
   go_loopw [6] (fun i wt=>∃(j:Nat) (ys:List Int),k<=j/\j<=2 * k+70/\i=.int .i64 (j:Int)/\Blk .u8 5 wt G ys/\ys.length=M/\ys.take j=(lent zs).take j/\Lnd D wt L (.slice (some ⟨G,0,none⟩) M M) N/\But (fun x=>x=L\/x=G) W wt) (fun i _=>2 * k+70-(intOf i).toNat)
   case atStart=>exact⟨k,ys,Nat.le_refl _,by omega,rfl,hB,hyl,htk,hL,hbt⟩
   case round=>
    clear hB htk hL hbt hyl ys
    obtain⟨j,ys,hj1,hj2,rfl,hB,hyl,htk,hL,hbt⟩:=hrel
    by_cases hjn:j<2 * k+70
    ·have hbuf:=hL.buf
     have hcell:=hB.cell j (by omega)
     have hfr:=hB.frozen j
     have hk2:(j:Int)<(M:Int):=by omega
     have HB:=hid (hB.set j (mk j))
     have HT:=hid (take_set (ys:=ys) (k:=j) (z:=mk j) (l:=lent zs) (by omega) (by rw[length_lent];omega) htk (lent_hi (by omega) (by omega)).symm)
     have HL:=hid (hL.setOther (p:=⟨G,j,none⟩) (by exact hGL) (.int .u8 (mk j)))
     have Hb:=hid (hbt.setCell (p:=⟨G,j,none⟩) (.inr rfl) (.int .u8 (mk j)))
     have Hyl:=hid hyl
     generalize ys.getD j 0=old at *
     clear hB htk hL hbt hyl hsrc
     go_wp2_with fail
     go_region_with (go_at_call 146;refine (mark_any _ j _ (by omega)).mono ?_;rintro e w1 ⟨rfl,rfl⟩)
     all_goals go_wp2
     all_goals
      go_roundw
      case rel=>exact⟨j+1,_,by omega,by omega,by go_num,HB.out.drew,by simpa using Hyl.out,HT.out,HL.out,Hb.out.drew⟩
      case measure=>simp[intOf];omega
    ·have e:j=2 * k+70:=by omega
     subst e
     have hbuf:=hL.buf
     have hnum:=hL.num
     have hfr:=hL.frozen 6
     have HB:=hid hB
     have HL:=hid (hL.setNum k)
     have Hb:=hid (hbt.setCell (p:=⟨L,6,none⟩) (.inl rfl) (.int .i64 (k:Int)))
     have HT:Hid (ys.take (2 * k+70)=lent zs):=by
      show _=_
      rw[htk,List.take_of_length_le (by rw[length_lent];omega)]
     have Hyl:=hid hyl
     clear hB hL hbt htk hyl hsrc
     go_wp2
     go_ret
     exact⟨G,M,ys,rfl,HB.out.setOther (Ne.symm hGL) _,Hyl.out,HT.out,HL.out,rfl,rfl,Hb.out⟩
theorem Lend_new {D:DV} (L:Nat) (a0:Option Addr) (m0 c0:Nat) (N:Int) (a:Option Addr) (n c:Nat) (zs:List Int) (w:World) (hn:n<=16777216) (hL0:Lnd D w L (.slice a0 m0 c0) N) (hM:m0<2 * n+70)
  (hR:RdN (fun x=>x=L) w a n zs) :
  Calls Tryz.prog 118 #[.pointer (some ⟨L,5,none⟩),.slice a n c] w fun e w'=>∃(G' M':Nat) (ys:List Int),e=.returned (.slice (some ⟨G',0,none⟩) n (2 * n+70))/\Blk .u8 5 w' G' ys/\ys.length=M'/\ys.take (2 * n+70)=lent zs/\Lnd D w' L (.slice (some ⟨G',0,none⟩) M' M') n/\G'=w.heap.size/\M'=4 * n+512/\But (fun x=>x=L) w w':=by
 have hmk:=make_u8 (4 * n+512) (by omega)
 have hcast:(((4 * n+512:Nat):Nat):Int)=4 * (n:Int)+512:=by omega
 rw[hcast]at hmk
 have hbuf0:=hL0.buf
 have hfr0:=hL0.frozen 5
 have hlt:((m0:Int)<2 * (n:Int)+70):=by omega
 have hLs:=hL0.lt
 have HL0:=hid ((hL0.setBuf (.slice (some ⟨w.heap.size,0,none⟩) (4 * n+512) (4 * n+512))).alloc (.cells ((zeros (4 * n+512)).map (Value.int .u8)).toArray 5))
 have HB0:Hid (Blk .u8 5 ((w.setCell ⟨L,5,none⟩ (.slice (some ⟨w.heap.size,0,none⟩) (4 * n+512) (4 * n+512))).alloc (.cells ((zeros (4 * n+512)).map (Value.int .u8)).toArray 5)) w.heap.size (zeros (4 * n+512))):=by
  have h:=Blk.new (k:=.u8) (e:=5) (w.setCell ⟨L,5,none⟩ (.slice (some ⟨w.heap.size,0,none⟩) (4 * n+512) (4 * n+512))) (zeros (4 * n+512))
  rw[show (w.setCell ⟨L,5,none⟩ (.slice (some ⟨w.heap.size,0,none⟩) (4 * n+512) (4 * n+512))).heap.size=w.heap.size from by simp[World.setCell]]at h
  exact h
 have Hb0:=hid (((But.refl (fun x=>x=L) w).setCell (p:=⟨L,5,none⟩) rfl (.slice (some ⟨w.heap.size,0,none⟩) (4 * n+512) (4 * n+512))).alloc (.cells ((zeros (4 * n+512)).map (Value.int .u8)).toArray 5))
 have hl0:=length_zeros (4 * n+512)
 have HG:=hid hLs
 clear hL0
 go_enter Tryz.func118,Tryz.ntmps118
 go_wp2
 have hR1:=hR.but Hb0.out
 have hL0:=HL0.out
 have hB0:=HB0.out
 have hGL:L≠w.heap.size:=by omega
 have hRY:RdN (fun x=>x=L\/x=w.heap.size) ((w.setCell ⟨L,5,none⟩ (.slice (some ⟨w.heap.size,0,none⟩) (4 * n+512) (4 * n+512))).alloc (.cells ((zeros (4 * n+512)).map (Value.int .u8)).toArray 5)) a n zs:=by
  obtain⟨q1,q2,q3⟩:=hR
  obtain⟨_,_,r3⟩:=hR1
  refine⟨q1,q2,?_⟩
  rcases q3 with q3 | ⟨b,off,rfl,hb,hx,_⟩
  ·exact .inl q3
  ·rcases r3 with r3 | ⟨b',off',e',hb',hx',hc'⟩
   ·exact .inl r3
   ·simp at e'
    obtain⟨rfl,rfl⟩:=e'
    exact .inr ⟨b,off,rfl,hb',by omega,hc'⟩
 clear HL0 HB0 hmk hbuf0 hfr0 hlt hcast hR hR1 HG
 have HW:=hid hLs
 generalize ((w.setCell ⟨L,5,none⟩ (.slice (some ⟨w.heap.size,0,none⟩) (4 * n+512) (4 * n+512))).alloc (.cells ((zeros (4 * n+512)).map (Value.int .u8)).toArray 5))=W at *
 generalize zeros (4 * n+512)=ys0 at *
 obtain⟨hzl,hzb,hsrc⟩:=hRY
 have hM:2 * n+70<=4 * n+512:=by omega
 have hM2:4 * n+512<=1073741824:=by omega
 generalize hGG:w.heap.size=G at *
 generalize hMM:4 * n+512=M at *
 have HGG:=hid hGG
 have HMM:=hid hMM
 clear hGG hMM
 go_loopw [5] (fun i wt=>∃(k:Nat) (ys:List Int),k<=n/\i=.int .i64 (k:Int)/\Blk .u8 5 wt G ys/\ys.length=M/\ys.take k=(lent zs).take k/\Lnd D wt L (.slice (some ⟨G,0,none⟩) M M) N/\But (fun x=>x=L\/x=G) W wt) (fun i _=>n-(intOf i).toNat)
 case atStart=>exact⟨0,ys0,Nat.zero_le _,rfl,hB0,hl0,rfl,hL0,But.refl _ _⟩
 case round=>
  obtain⟨k,ys,hk,rfl,hB,hyl,htk,hL,hbt⟩:=hrel
  by_cases hkn:k<n
  ·obtain⟨b,off,rfl,hb,hbx,hc⟩:=hsrc.resolve_left (by omega)
   have hcs:=(hbt.cell (p:=⟨b,off+k,none⟩) hb hbx).trans (hc k hkn)
   have hbuf:=hL.buf
   have hcell:=hB.cell k (by omega)
   have hfr:=hB.frozen k
   have hk1:(k:Int)<(n:Int):=by omega
   have hk2:(k:Int)<(M:Int):=by omega
   have HB:=hid (hB.set k (zs.getD k 0))
   have HT:=hid (take_set (ys:=ys) (k:=k) (z:=zs.getD k 0) (l:=lent zs) (by omega) (by rw[length_lent];omega) htk (lent_lo (by omega)).symm)
   have HL:=hid (hL.setOther (p:=⟨G,k,none⟩) (by exact hGL) (.int .u8 (zs.getD k 0)))
   have Hb:=hid (hbt.setCell (p:=⟨G,k,none⟩) (.inr rfl) (.int .u8 (zs.getD k 0)))
   have Hyl:=hid hyl
   generalize ys.getD k 0=old at *
   generalize zs.getD k 0=z at *
   clear hB htk hL hbt hc hyl hsrc
   go_wp2
   go_region
   all_goals go_wp2
   all_goals
    go_roundw
    case rel=>exact⟨k+1,_,by omega,by go_num,HB.out.drew,by simpa using Hyl.out,HT.out,HL.out,Hb.out.drew⟩
    case measure=>simp[intOf];omega
  ·have e:k=n:=by omega
   subst e
   clear hkn hk
   go_wp2
   go_loopw [6] (fun i wt=>∃(j:Nat) (ys:List Int),k<=j/\j<=2 * k+70/\i=.int .i64 (j:Int)/\Blk .u8 5 wt G ys/\ys.length=M/\ys.take j=(lent zs).take j/\Lnd D wt L (.slice (some ⟨G,0,none⟩) M M) N/\But (fun x=>x=L\/x=G) W wt) (fun i _=>2 * k+70-(intOf i).toNat)
   case atStart=>exact⟨k,ys,Nat.le_refl _,by omega,rfl,hB,hyl,htk,hL,hbt⟩
   case round=>
    clear hB htk hL hbt hyl ys
    obtain⟨j,ys,hj1,hj2,rfl,hB,hyl,htk,hL,hbt⟩:=hrel
    by_cases hjn:j<2 * k+70
    ·have hbuf:=hL.buf
     have hcell:=hB.cell j (by omega)
     have hfr:=hB.frozen j
     have hk2:(j:Int)<(M:Int):=by omega
     have HB:=hid (hB.set j (mk j))
     have HT:=hid (take_set (ys:=ys) (k:=j) (z:=mk j) (l:=lent zs) (by omega) (by rw[length_lent];omega) htk (lent_hi (by omega) (by omega)).symm)
     have HL:=hid (hL.setOther (p:=⟨G,j,none⟩) (by exact hGL) (.int .u8 (mk j)))
     have Hb:=hid (hbt.setCell (p:=⟨G,j,none⟩) (.inr rfl) (.int .u8 (mk j)))
     have Hyl:=hid hyl
     generalize ys.getD j 0=old at *
     clear hB htk hL hbt hyl hsrc
     go_wp2_with fail
     go_region_with (go_at_call 146;refine (mark_any _ j _ (by omega)).mono ?_;rintro e w1 ⟨rfl,rfl⟩)
     all_goals go_wp2
     all_goals
      go_roundw
      case rel=>exact⟨j+1,_,by omega,by omega,by go_num,HB.out.drew,by simpa using Hyl.out,HT.out,HL.out,Hb.out.drew⟩
      case measure=>simp[intOf];omega
    ·have e:j=2 * k+70:=by omega
     subst e
     have hbuf:=hL.buf
     have hnum:=hL.num
     have hfr:=hL.frozen 6
     have HB:=hid hB
     have HL:=hid (hL.setNum k)
     have Hb:=hid (hbt.setCell (p:=⟨L,6,none⟩) (.inl rfl) (.int .i64 (k:Int)))
     have HT:Hid (ys.take (2 * k+70)=lent zs):=by
      show _=_
      rw[htk,List.take_of_length_le (by rw[length_lent];omega)]
     have Hyl:=hid hyl
     clear hB hL hbt htk hyl hsrc
     go_wp2
     go_ret
     exact⟨G,M,ys,rfl,HB.out.setOther (Ne.symm hGL) _,Hyl.out,HT.out,HL.out,HGG.out.symm,HMM.out.symm,Hb0.out.comp Hb.out (fun x hx h=>h.elim id (fun h=>absurd h (by have:=HGG.out;omega)))⟩
open Go.RowKit
def XL (L:Nat) (bv:Value) (x:Nat):Prop:=x=L\/bv.ownBlock=some x
def LS (D:DV) (w:World) (L:Nat) (bv:Value):Prop :=
 (∃N,Lnd D w L bv N)/\(bv=.slice none 0 0\/∃G M ys,bv=.slice (some ⟨G,0,none⟩) M M/\L≠G/\Blk .u8 5 w G ys/\ys.length=M/\M<=67109376)
theorem LS.lt{D:DV}{bv:Value}(h:LS D w L bv):L<w.heap.size:=by obtain⟨⟨N,h⟩,_⟩:=h;exact h.lt
theorem LS.but{D:DV}{bv:Value}(h:LS D w L bv)(hb:But X w w')(hx:∀x,XL L bv x->¬X x):LS D w' L bv:=by
 obtain⟨⟨N,h1⟩,h2⟩:=h
 refine⟨⟨N,h1.but hb (hx L (.inl rfl))⟩,?_⟩
 rcases h2 with h2 | ⟨G,M,ys,rfl,h3,h4,h5,h6⟩
 ·exact .inl h2
 ·exact .inr ⟨G,M,ys,rfl,h3,h4.but hb (hx G (.inr rfl)),h5,h6⟩
structure Lent (D:DV) (w:World) (L G M n:Nat) (zs:List Int):Prop where
 num:Lnd D w L (.slice (some ⟨G,0,none⟩) M M) n
 ne:L≠G
 big:2 * n+70<=M
 small:M<=67109376
 buf:∃ys,Blk .u8 5 w G ys/\ys.length=M/\ys.take (2 * n+70)=lent zs
theorem Lend_any{D:DV}(L:Nat)(bv:Value)(a:Option Addr)(n c:Nat)(zs:List Int)(w:World)(hn:n<=16777216)(hS:LS D w L bv)(hR:RdN (XL L bv) w a n zs) :
  Calls Tryz.prog 118 #[.pointer (some ⟨L,5,none⟩),.slice a n c] w fun e w'=>∃G M,e=.returned (.slice (some ⟨G,0,none⟩) n (2 * n+70))/\Lent D w' L G M n zs/\(bv.ownBlock=some G\/w.heap.size<=G)/\But (XL L bv) w w':=by
 obtain⟨⟨N,h1⟩,h2⟩:=hS
 rcases h2 with rfl | ⟨G,M,ys,rfl,h3,h4,h5,h6⟩
 ·refine (Lend_new L none 0 0 N a n c zs w hn h1 (by omega) (hR.mono (fun x _ h=>.inl h))).mono ?_
  rintro e w' ⟨G,M,ys,he,hB,hl,ht,hL,hG,hM,hb⟩
  have:=h1.lt
  exact⟨G,M,he,⟨hL,by omega,by omega,by omega,ys,hB,hl,ht⟩,.inr (by omega),hb.mono (fun x _ h=>.inl h)⟩
 ·by_cases hM:M<2 * n+70
  ·refine (Lend_new L (some ⟨G,0,none⟩) M M N a n c zs w hn h1 hM (hR.mono (fun x _ h=>.inl h))).mono ?_
   rintro e w' ⟨G',M',ys',he,hB,hl,ht,hL,hG,hM',hb⟩
   have:=h1.lt
   exact⟨G',M',he,⟨hL,by omega,by omega,by omega,ys',hB,hl,ht⟩,.inr (by omega),hb.mono (fun x _ h=>.inl h)⟩
  ·have hx:∀x,(x=L\/x=G)->XL L (.slice (some ⟨G,0,none⟩) M M) x:=fun x h=>h.imp id (fun h=>by rw[h];rfl)
   refine (Lend_old L G M N a n c ys zs w hn h4 h5 h1 h3 (by omega) (by omega) (hR.mono (fun x _ h=>hx x h))).mono ?_
   rintro e w' ⟨G',M',ys',he,hB,hl,ht,hL,rfl,rfl,hb⟩
   exact⟨G',M',he,⟨hL,h3,by omega,h6,ys',hB,hl,ht⟩,.inl rfl,hb.mono (fun x _ h=>hx x h)⟩
theorem Lent.rd{D:DV}{G:Nat}(h:Lent D w L G M n zs)(hz:zs.length=n)(hb:Pl.isB zs):Rd w.heap.size w (some ⟨G,0,none⟩) n zs:=by
 obtain⟨ys,hB,hl,ht⟩:=h.buf
 have:=h.big
 refine⟨hz,hb,.inr ⟨G,0,rfl,hB.lt,fun t htn=>?_⟩⟩
 have hc:=hB.cell t (by omega)
 rw[Nat.zero_add,hc,<- lent_lo (zs:=zs) (by omega),<- ht,List.getD_eq_getElem?_getD,List.getD_eq_getElem?_getD,List.getElem?_take_of_lt (by omega)]
theorem Lent.but{D:DV}{G:Nat}(h:Lent D w L G M n zs)(hb:But X w w')(h1:¬X L)(h2:¬X G):Lent D w' L G M n zs:=by
 obtain⟨ys,hB,hl,ht⟩:=h.buf
 exact⟨h.num.but hb h1,h.ne,h.big,h.small,ys,hB.but hb h2,hl,ht⟩
theorem Back_any{D:DV}(L G M:Nat)(a:Option Addr)(n c:Nat)(zs:List Int)(w:World)(hn:n<=16777216)(hS:Lent D w L G M n zs)(hR:RdN (fun x=>x=L\/x=G) w a n zs) :
  Calls Tryz.prog 120 #[.pointer (some ⟨L,5,none⟩),.slice a n c] w fun e w'=>e=.returned (.bool true)/\LS D w' L (.slice (some ⟨G,0,none⟩) M M)/\But (fun x=>x=G) w w':=by
 obtain⟨ys,hB,hl,ht⟩:=hS.buf
 have hs:=hS.small
 refine (Back_ok L G M a n c ys zs w hn hB hl ht hS.num hS.ne hS.big (by omega) hR).mono ?_
 rintro e w' ⟨ys',he,hB',hl',hL',hb⟩
 exact⟨he,⟨⟨_,hL'⟩,.inr ⟨G,M,ys',rfl,hS.ne,hB',hl',hs⟩⟩,hb⟩
open Go.RowKit Go.Deep
structure Dv where
 p:Nat
 st:Nat
 j:Nat
 c:Nat
 nb:Nat
 fr:Nat
 bl:Nat
 K:Nat
 d:Pd
 s:Js
 o:Option OT
 r:Ra
 tsv:Value
 rsv:Value
 bv:Value
 xs:List (Nat×Nat)
def ptrV (k:Nat):Value:=.pointer (some ⟨k,0,none⟩)
def Dset (ob:Nat) (v:Dv) (k:Nat):Prop:=Rset v.r k\/XL ob v.bv k\/v.tsv.ownBlock=some k\/v.rsv.ownBlock=some k\/∃x∈v.xs,k=x.2
structure DqR (w:World) (ob:Nat) (v:Dv):Prop where
 ls:LS (ptrV v.p,ptrV v.st,ptrV v.r.rb,v.tsv,v.rsv) w ob v.bv
 rf:Rsd w v.nb v.fr v.bl v.r
 ts:w.ownsRow 0 81 1 v.tsv v.xs.length (v.xs.map fun x=>ptrV x.1)
 rs:w.ownsRow 0 65 1 v.rsv v.xs.length (v.xs.map fun x=>ptrV x.2)
 all:∀x∈v.xs,(∃t,v.r.q=some t/\x.2=t.g)\/∃pv mv,Rt5 w x.2 v.r.rb pv mv true
structure DqP (Y:Nat->Prop) (w:World) (v:Dv):Prop where
 pg:StO Y w v.j v.c v.p v.st v.nb v.K v.fr v.bl v.d v.s v.o
 all:∀x∈v.xs,(∃q,v.o=some q/\x.1=q.t)\/(Txb w x.1 v.j .nilIface v.st (.pointer none)/\¬Y x.1)
 yb:∀k,Y k->k<w.heap.size
structure Dq (Y:Nat->Prop) (w:World) (ob:Nat) (v:Dv):Prop where
 P:DqP Y w v
 R:DqR w ob v
 ny:∀k,Dset ob v k->¬Y k
 lk:∀x∈v.xs,(∃q,v.o=some q/\x.1=q.t) ↔ ∃t,v.r.q=some t/\x.2=t.g
theorem DqR.kinds{ob:Nat}{v:Dv}(h:DqR w ob v)(hk:Dset ob v k):∃cur e,w.heap[k]?=some (.cells cur e (0,0))/\e≠125/\e≠83:=by
 rcases hk with hk | hk | hk | hk | ⟨x,hx,rfl⟩
 ·obtain⟨cur,e,hc,he⟩:=h.rf.kinds hk
  exact⟨cur,e,hc,by rcases he with rfl | rfl | rfl | rfl | rfl | rfl <;> decide,by rcases he with rfl | rfl | rfl | rfl | rfl | rfl <;> decide⟩
 ·obtain⟨⟨Nn,h1⟩,h2⟩:=h.ls
  rcases hk with rfl | hk
  ·exact⟨_,_,h1,by decide,by decide⟩
  ·rcases h2 with h2 | ⟨G,M,ys,h3,_,h5,_⟩
   ·rw[h2]at hk
    cases hk
   ·rw[h3]at hk
    have:G=k:=by simpa [Value.ownBlock] using hk
    subst this
    exact⟨_,_,h5,by decide,by decide⟩
 ·obtain⟨cur,hc⟩:=rowKind h.ts hk
  exact⟨cur,_,hc,by decide,by decide⟩
 ·obtain⟨cur,hc⟩:=rowKind h.rs hk
  exact⟨cur,_,hc,by decide,by decide⟩
 ·rcases h.all x hx with ⟨t,ht,e⟩ | ⟨pv,mv,hr⟩
  ·rw[e]
   exact⟨_,_,(h.rf.tx t ht).blk,by decide,by decide⟩
  ·exact⟨_,_,hr,by decide,by decide⟩
theorem DqR.lt{ob:Nat}{v:Dv}(h:DqR w ob v)(hk:Dset ob v k):k<w.heap.size:=by
 obtain⟨cur,e,hc,_⟩:=h.kinds hk
 exact (Array.getElem?_eq_some_iff.1 hc).1
theorem DqR.keep{ob:Nat}{v:Dv}(h:DqR w ob v)(hb:But X w w')(hx:∀k,Dset ob v k->¬X k):DqR w' ob v where
 ls:=h.ls.but hb (fun k e=>hx k (.inr (.inl e)))
 rf:=h.rf.but hb (fun k e=>hx k (.inl e))
 ts:=owns_keep h.ts (fun k e=>hb.block k (h.lt (.inr (.inr (.inl e)))) (hx k (.inr (.inr (.inl e)))))
 rs:=owns_keep h.rs (fun k e=>hb.block k (h.lt (.inr (.inr (.inr (.inl e))))) (hx k (.inr (.inr (.inr (.inl e))))))
 all:=fun x hm=>(h.all x hm).imp id (fun⟨pv,mv,q⟩=>⟨pv,mv,q.keep (hb.block x.2 q.lt (hx x.2 (.inr (.inr (.inr (.inr ⟨x,hm,rfl⟩))))))⟩)
theorem DqP.keep{v:Dv}(h:DqP Y w v)(hb:But X w w')(hx:∀k,k<w.heap.size->X k->¬Y k)(hk:∀k,X k->k<w.heap.size->∃cur e,w.heap[k]?=some (Obj.cells cur e (0,0))/\e≠125):DqP Y w' v where
 pg:=h.pg.keep hb (fun k hl e1 e2=>hx k hl e1 e2)
 all:=fun x hm=>(h.all x hm).imp id (fun⟨q1,q2⟩=>⟨q1.keep (hb.block x.1 q1.lt (fun e=>by
  obtain⟨cur,e9,hc,he⟩:=hk x.1 e q1.lt
  unfold Txb at q1
  rw[q1]at hc
  injection hc with hc
  injection hc with _ hc
  exact he hc.symm)),q2⟩)
 yb:=fun k e=>Nat.lt_of_lt_of_le (h.yb k e) hb.size
theorem Dq.prog{ob:Nat}{v:Dv}(h:Dq Y w ob v)(hb:But Y w w')(hg:Gr Y Y' w):DqR w' ob v/\∀k,Dset ob v k->¬Y' k:=⟨h.R.keep hb h.ny,fun k hk e=>h.ny k hk (hg k (h.R.lt hk) e)⟩
theorem DqP.over{v:Dv}(h:DqP Y w v)(hb:But Y w w')(hg:Gr Y Y' w):∀x∈v.xs,(∃q,v.o=some q/\x.1=q.t)\/(Txb w' x.1 v.j .nilIface v.st (.pointer none)/\¬Y' x.1):=fun x hm=>(h.all x hm).imp id (fun⟨q1,q2⟩=>⟨q1.keep (hb.block x.1 q1.lt q2),fun e=>q2 (hg x.1 q1.lt e)⟩)
structure Rl (M:Nat) (v:Dv):Prop where
 off:v.r.off=v.d.off
 on:v.d.off=false->v.d.fu=-1/\∃home Ts,On v.d v.s v.nb v.fr v.bl 0 home Ts/\Hk v.nb v.fr v.bl home Ts v.r.Fs v.r.Ds/\Ts.length<=M
 pl:v.d.puts.length<=v.nb
 both:v.o.isSome=v.r.q.isSome
 op:∀q t,v.o=some q->v.r.q=some t->Mq v.nb v.fr v.bl q.a q.ms q.val t.ps t.ks/\q.n+q.ss.length<=2 * M/\t.ps.length<=M/\t.ks.length<=M
 kb:v.K<=M
 db:v.r.Ds.length<=M/\∀ps∈v.r.Ds,ps.length<=M
 xb:v.xs.length<=M
 lo:16<=v.bl
 fit:v.fr+v.bl<=v.nb
 nb:v.nb<=524288
def Ball (Y:Nat->Prop) (ob:Nat) (v:Dv) (k:Nat):Prop:=Y k\/Dset ob v k\/∃x∈v.xs,k=x.1
def Dsk (B:Nat->Prop) (w:World) (ob M:Nat):Prop:=∃Y v,Dq Y w ob v/\Rl M v/\∀k,B k ↔ Ball Y ob v k
def DskS (B:Nat->Prop) (w w':World) (ob M:Nat):Prop:=∃B',Dsk B' w' ob M/\Gr B B' w/\But B w w'
theorem DqP.x1{v:Dv}(h:DqP Y w v){x:Nat×Nat}(hx:x∈v.xs):x.1<w.heap.size:=by
 rcases h.all x hx with ⟨q,hq,e⟩ | ⟨q,_⟩
 ·have hp:=h.pg
  rw[hq]at hp
  obtain⟨_,_,_,_,_,_,q3,_⟩:=hp
  rw[e]
  exact q3.lt
 ·exact q.lt
theorem Dq.lt{ob:Nat}{v:Dv}(h:Dq Y w ob v)(hk:Ball Y ob v k):k<w.heap.size:=by
 rcases hk with hk | hk | ⟨x,hx,rfl⟩
 ·exact h.P.yb k hk
 ·exact h.R.lt hk
 ·exact h.P.x1 hx
theorem Dsk.lt{B:Nat->Prop}{ob:Nat}(h:Dsk B w ob M)(hk:B k):k<w.heap.size:=by
 obtain⟨Y,v,h1,_,h3⟩:=h
 exact h1.lt ((h3 k).1 hk)
theorem Dsk.keep{B:Nat->Prop}{ob:Nat}(h:Dsk B w ob M)(hb:But X w w')(hx:∀k,k<w.heap.size->X k->¬B k):Dsk B w' ob M:=by
 obtain⟨Y,v,h1,h2,h3⟩:=h
 refine⟨Y,v,⟨⟨h1.P.pg.keep hb (fun k hl e1 e2=>hx k hl e1 ((h3 k).2 (.inl e2))),fun x hm=>(h1.P.all x hm).imp id (fun⟨q1,q2⟩=>⟨q1.keep (hb.block x.1 q1.lt (fun e=>hx x.1 q1.lt e ((h3 _).2 (.inr (.inr ⟨x,hm,rfl⟩))))),q2⟩),fun k e=>Nat.lt_of_lt_of_le (h1.P.yb k e) hb.size⟩,h1.R.keep hb (fun k hk e=>hx k (h1.R.lt hk) e ((h3 k).2 (.inr (.inl hk)))),h1.ny,h1.lk⟩,h2,h3⟩
theorem Dsk.below{B:Nat->Prop}{ob:Nat}(h:Dsk B w ob M)(hb:Below w.heap.size w w'):Dsk B w' ob M:=h.keep (X:=fun _=>False) (But.of_below hb) (fun _ _ q _=>q)
theorem Dq.close{B:Nat->Prop}{ob:Nat}{v v':Dv}(h:Dq Y w ob v)(hB:∀k,B k ↔ Ball Y ob v k)(h':Dq Y' w' ob v')(r':Rl M v')(gY:Gr Y Y' w)(gD:∀k,Dset ob v' k->Dset ob v k\/w.heap.size<=k)(gx:∀x∈v'.xs,x∈v.xs\/w.heap.size<=x.1)(hb:But (fun k=>Y k\/Dset ob v k) w w'):DskS B w w' ob M:=by
 have _:=h
 refine⟨Ball Y' ob v',⟨Y',v',h',r',fun _=>Iff.rfl⟩,fun k hk e=>(hB k).2 ?_,hb.mono (fun k _ e=>(hB k).2 (e.elim .inl (fun q=>.inr (.inl q))))⟩
 rcases e with e | e | ⟨x,hx,rfl⟩
 ·exact .inl (gY k hk e)
 ·rcases gD k e with q | q
  ·exact .inr (.inl q)
  ·omega
 ·rcases gx x hx with q | q
  ·exact .inr (.inr ⟨x,q,rfl⟩)
  ·omega
def Pkd (w:World) (v:Dv) (tv rv:Value) (who:Option Bool):Prop:=PWho w v.j v.st v.o tv who/\RWho w v.r rv who/\(who=none\/∃x∈v.xs,tv=ptrV x.1/\rv=ptrV x.2)
theorem Dq.pick{ob:Nat}{v:Dv}(h:Dq Y w ob v){x:Nat×Nat}(hx:x∈v.xs):∃who,Pkd w v (ptrV x.1) (ptrV x.2) who:=by
 rcases h.P.all x hx with q | ⟨q1,_⟩
 ·obtain⟨t,ht,e2⟩:=(h.lk x hx).1 q
  obtain⟨q,hq,e1⟩:=q
  exact⟨some true,⟨q,hq,by rw[e1];rfl⟩,⟨t,ht,by rw[e2];rfl⟩,.inr ⟨x,hx,rfl,rfl⟩⟩
 ·refine⟨some false,⟨x.1,rfl,q1⟩,?_,.inr ⟨x,hx,rfl,rfl⟩⟩
  rcases h.R.all x hx with q | ⟨pv,mv,hr⟩
  ·obtain⟨q,hq,e1⟩:=(h.lk x hx).2 q
   exfalso
   have hp:=h.P.pg
   rw[hq]at hp
   obtain⟨_,_,_,_,_,_,q3,_⟩:=hp
   rw[e1]at q1
   unfold Txb at q1 q3
   rw[q1]at q3
   injection q3 with q3
   injection q3 with q3
   simp at q3
  ·exact⟨x.2,pv,mv,rfl,hr⟩
theorem RWho.keep{r:Ra}(h:RWho w r rv who)(hk:∀g,rv=ptrV g->w'.heap[g]?=w.heap[g]?):RWho w' r rv who:=by
 cases who with
 | none=>exact h
 | some b=>
  cases b with
  | true=>exact h
  | false=>
   obtain⟨g,pv,mv,e,hg⟩:=h
   exact⟨g,pv,mv,e,hg.keep (hk g e)⟩
theorem Pkd.ref{ob:Nat}{v:Dv}(h:Pkd w v tv rv who)(hq:Dq Y w ob v)(hb:But Y w w'):RWho w' v.r rv who:=by
 obtain⟨_,h2,h3⟩:=h
 rcases h3 with rfl | ⟨x,hx,_,rfl⟩
 ·exact h2
 ·refine h2.keep (fun g e=>?_)
  obtain rfl:x.2=g:=by
   unfold ptrV at e
   injection e with e
   injection e with e
   injection e
  have hd:Dset ob v x.2:=.inr (.inr (.inr (.inr ⟨x,hx,rfl⟩)))
  exact hb.block x.2 (hq.R.lt hd) (hq.ny _ hd)
open Go.RowKit Go.Deep
def DskV (B:Nat->Prop) (w w':World) (ob M:Nat) (u:Value):Prop:=∃B' zs,Dsk B' w' ob M/\Gr B B' w/\But B w w'/\RdV w w' B' u zs
theorem DskS.v{B:Nat->Prop}{ob:Nat}(h:DskS B w w' ob M):DskV B w w' ob M (.slice none 0 0):=by
 obtain⟨B',h1,h2,h3⟩:=h
 exact⟨B',[],h1,h2,h3,.inl ⟨rfl,rfl⟩⟩
theorem Dq.closeV{B:Nat->Prop}{ob:Nat}{v v':Dv}(h:Dq Y w ob v)(hB:∀k,B k ↔ Ball Y ob v k)(h':Dq Y' w' ob v')(r':Rl M v')(gY:Gr Y Y' w)(gD:∀k,Dset ob v' k->Dset ob v k)(gx:∀x∈v'.xs,x∈v.xs)(hb:But (fun k=>Y k\/Dset ob v k) w w')(hu:RdV w w' Y' u zs):DskV B w w' ob M u:=by
 obtain⟨B',q1,q2,q3⟩:=h.close hB h' r' gY (fun k e=>.inl (gD k e)) (fun x e=>.inl (gx x e)) hb
 refine⟨Ball Y' ob v',zs,⟨Y',v',h',r',fun _=>Iff.rfl⟩,fun k hk e=>(hB k).2 ?_,q3,hu.imp id ?_⟩
 ·rcases e with e | e | ⟨x,hx,rfl⟩
  ·exact .inl (gY k hk e)
  ·exact .inr (.inl (gD k e))
  ·exact .inr (.inr ⟨x,gx x hx,rfl⟩)
 ·rintro ⟨g,cp,e1,e2,e3,e4,e5⟩
  refine⟨g,cp,e1,e2,e3,e4,fun e=>?_⟩
  rcases e with e | e | ⟨x,hx,rfl⟩
  ·exact e5 e
  ·have:=h.R.lt (gD g e)
   omega
  ·have:=h.P.x1 (gx x hx)
   omega
theorem rd_nil :Rd 0 w none 0 []:=⟨rfl,(by intro z hz;simp at hz),.inl rfl⟩
theorem RdV.str{v:Value}(h:RdV w w' Y v zs)(hb:Below w'.heap.size w' w2)(n:Nat):(convert 40 9 v).run Tryz.prog (w2.drewN n)=.ok (.string (strOfNums zs)) (w2.drewN n):=by
 rcases h with ⟨rfl,rfl⟩ | ⟨g,cp,rfl,_,h3,h4,_⟩
 ·exact conv_str (B:=0) (w:=w2.drewN n) (a:=none) (n:=0) (zs:=[]) rd_nil 0
 ·have h5:Own (w2.drewN n) g 512 cp zs:=(h3.keep (hb.block g h3.lt)).keep rfl
  exact conv_str (B:=(w2.drewN n).heap.size) (h5.rd h4) cp
theorem RdV.low{v:Value}(h:RdV w w' Y v zs)(hb:Below w'.heap.size w' w2):RdV w w2 Y v zs:=h.imp id (fun⟨g,cp,e1,e2,e3,e4,e5⟩=>⟨g,cp,e1,e2,e3.keep (hb.block g e3.lt),e4,e5⟩)
theorem str_nil:strOfNums []=ByteArray.empty:=rfl
theorem Rl.read{v:Dv}(h:Rl M v)(hF:v.r.Fs.length=v.nb)(y:Int):(prC v.nb v.fr v.bl v.d v.s y).2=(rdC v.nb v.fr v.bl v.r.Fs v.r.Ds v.r.off y).2/\strOfNums (prC v.nb v.fr v.bl v.d v.s y).1=(rdC v.nb v.fr v.bl v.r.Fs v.r.Ds v.r.off y).1:=by
 unfold prC rdC
 rw[h.off]
 cases ho:v.d.off with
 | true=>exact⟨rfl,rfl⟩
 | false=>
  by_cases hh:homeC v.nb v.fr v.bl y=0
  ·obtain⟨yn,rfl,hyn⟩:=home_nat hh
   obtain⟨_,home,Ts,hO,hK,_⟩:=h.on ho
   have hHB:HomeB v.nb v.fr v.bl yn:=by
    refine⟨hyn,fun q=>?_⟩
    unfold homeC at hh
    rw[if_pos (.inr (.inr ⟨by omega,by omega⟩))]at hh
    exact absurd hh (by decide)
   have e1:=hO.read hHB
   have hFy:v.r.Fs[yn]?=some (v.r.Fs.getD yn ByteArray.empty):=by
    rw[List.getD_eq_getElem?_getD,List.getElem?_eq_getElem (by rw[hF];exact hyn)]
    rfl
   have e2:=hK yn hHB _ hFy
   simp[hh,e1,e2]
  ·simp[hh,str_nil]
theorem Rl.tread{v:Dv}(h:Rl M v)(hF:v.r.Fs.length=v.nb)(hw:who=some true->v.o.isSome=true)(y:Int):(ptC v.nb v.fr v.bl v.d v.s v.o who y).2=(trC v.nb v.fr v.bl v.r who y).2/\strOfNums (ptC v.nb v.fr v.bl v.d v.s v.o who y).1=(trC v.nb v.fr v.bl v.r who y).1:=by
 unfold ptC trC
 rw[h.off]
 by_cases hc:askW who v.d.off=0
 ·obtain⟨rfl,ho⟩:=askW_zero hc
  by_cases hh:homeC v.nb v.fr v.bl y=0
  ·obtain⟨yn,rfl,hyn⟩:=home_nat hh
   obtain⟨q,hq⟩:=Option.isSome_iff_exists.1 (hw rfl)
   obtain⟨t,ht⟩:=Option.isSome_iff_exists.1 (h.both ▸ hw rfl)
   obtain⟨hM,_⟩:=h.op q t hq ht
   have hr:=h.read hF (yn:Int)
   unfold prC rdC at hr
   rw[h.off,ho]at hr
   simp[hh]at hr
   have hps:psOf v.r=t.ps:=by simp[psOf,ht]
   simp only[hc,hh,hq,hps,layU_last,hM.now.last yn]
   simp only[ne_eq,not_true_eq_false,if_false,Int.toNat_natCast]
   refine⟨trivial,?_⟩
   cases hL:LofA q.a q.val yn with
   | none=>simp[hr]
   | some zs=>rfl
  ·simp[hc,hh,str_nil]
 ·simp[hc,str_nil]
theorem Pkd.open{v:Dv}(h:Pkd w v tv rv who):who=some true->v.o.isSome=true:=fun e=>by
 subst e
 obtain⟨q,hq,_⟩:=h.1
 rw[hq]
 rfl
theorem Rl.up{v:Dv}(h:Rl M v)(hK:K'<=M+1):Rl (M+1) { v with K:=K' } where
 off:=h.off
 on:=fun e=>by
  obtain⟨q1,home,Ts,q2,q3,q4⟩:=h.on e
  exact⟨q1,home,Ts,q2,q3,by omega⟩
 pl:=h.pl
 both:=h.both
 op:=fun q t e1 e2=>by
  obtain⟨q1,q2,q3,q4⟩:=h.op q t e1 e2
  exact⟨q1,by omega,by omega,by omega⟩
 kb:=hK
 db:=⟨by have:=h.db.1;simp only;omega,fun ps hps=>by have:=h.db.2 ps hps;omega⟩
 xb:=by have:=h.xb;simp only;omega
 lo:=h.lo
 fit:=h.fit
 nb:=h.nb
theorem Rl.ps{v:Dv}(h:Rl M v)(hM:M<=268435455):∀t,v.r.q=some t->t.ps.length<=1073741823:=fun t ht=>by
 obtain⟨q,hq⟩:=Option.isSome_iff_exists.1 (h.both.trans (by rw[ht];rfl))
 obtain⟨_,_,q3,_⟩:=h.op q t hq ht
 omega
theorem Dq.readBoth{B:Nat->Prop}{ob:Nat}{v:Dv}(h:Dq Y w ob v)(hr:Rl M v)(hB:∀k,B k ↔ Ball Y ob v k)(hM:M<=268435455)(y:Int) :
  Calls Tryz.prog 27 #[ptrV v.st,.int .i64 y] w fun e w1=>∃u code,e=.returned (.tuple #[u,.int .i64 code])/\DqR w1 ob v/\But Y w w1/\∀w1',Below w1.heap.size w1 w1'->Calls Tryz.prog 38 #[ptrV v.r.rb,.int .i64 y] w1' fun e' w2=>∃S,e'=.returned (.tuple #[.string S,.int .i64 code])/\Below w1'.heap.size w1' w2/\(∀n,(convert 40 9 u).run Tryz.prog (w2.drewN n)=.ok (.string S) (w2.drewN n))/\DskV B w w2 ob (M+1) u:=by
 have hpl:=hr.pl
 have hnb:=hr.nb
 have hkb:=hr.kb
 refine Calls.mono (h.P.pg.read hr.fit (by omega) (by omega) y) ?_
 rintro e w1 ⟨u,Y',rfl,q1,q2,q3,q4,q5⟩
 obtain⟨hR1,hN1⟩:=h.prog q5 q4
 obtain⟨e1,e2⟩:=hr.read h.R.rf.fsl y
 refine⟨u,_,rfl,hR1,q5,fun w1' b1=>?_⟩
 have hR1':DqR w1' ob v:=hR1.keep (X:=fun _=>False) (But.of_below b1) (fun _ _ q=>q)
 refine Calls.mono (hR1'.rf.read hnb hr.fit (by have:=hr.db.1;omega) (fun ps hps=>by have:=hr.db.2 ps hps;omega) y) ?_
 rintro e' w2 ⟨rfl,b2'⟩
 have b2:Below w1.heap.size w1 w2:=b1.trans (b2'.mono b1.size)
 refine⟨_,by rw[e1],b2',fun n=>by rw[<- e2];exact q2.str b2 n,?_⟩
 have hP2:DqP Y' w2 { v with K:=v.K+1 }:=⟨q1.below b2,fun x hx=>(h.P.over q5 q4 x hx).imp id (fun⟨t1,t2⟩=>⟨t1.keep (b2.block x.1 t1.lt),t2⟩),fun k e=>Nat.lt_of_lt_of_le (q3 k e) b2.size⟩
 have hR2:DqR w2 ob v:=hR1.keep (X:=fun _=>False) (But.of_below b2) (fun _ _ q=>q)
 refine h.closeV hB (v':={ v with K:=v.K+1 }) ⟨hP2,⟨hR2.ls,hR2.rf,hR2.ts,hR2.rs,hR2.all⟩,hN1,h.lk⟩ (hr.up (by omega)) q4 (fun _ e=>e) (fun _ e=>e) ((q5.trans (But.of_below b2)).mono (fun k _ e=>.inl e)) (q2.low b2)
theorem Dq.seeBoth{B:Nat->Prop}{ob:Nat}{v:Dv}(h:Dq Y w ob v)(hr:Rl M v)(hB:∀k,B k ↔ Ball Y ob v k)(hM:M<=268435455)(hp:Pkd w v tv rv who)(y:Int)(hy1:-9223372036854775808<=y)(hy2:y<=9223372036854775807) :
  Calls Tryz.prog 28 #[tv,.int .i64 y] w fun e w1=>∃u code,e=.returned (.tuple #[u,.int .i64 code])/\But Y w w1/\Calls Tryz.prog 76 #[rv,.int .i64 y] w1 fun e' w2=>∃S,e'=.returned (.tuple #[.string S,.int .i64 code])/\(∀n,(convert 40 9 u).run Tryz.prog (w2.drewN n)=.ok (.string S) (w2.drewN n))/\DskV B w w2 ob (M+1) u:=by
 have hpl:=hr.pl
 have hnb:=hr.nb
 have hkb:=hr.kb
 refine Calls.mono (h.P.pg.tread hr.fit (by omega) (by omega) hnb hp.1 y hy1 hy2) ?_
 rintro e w1 ⟨u,Y',rfl,q1,q2,q3,q4,q5⟩
 obtain⟨hR1,hN1⟩:=h.prog q5 q4
 obtain⟨e1,e2⟩:=hr.tread h.R.rf.fsl hp.open y
 have hw1:=hp.ref h q5
 refine⟨u,_,rfl,q5,?_⟩
 refine Calls.mono (hR1.rf.tread hnb hr.fit (by have:=hr.db.1;omega) (fun ps hps=>by have:=hr.db.2 ps hps;omega) (hr.ps hM) hw1 y) ?_
 rintro e' w2 ⟨rfl,b2⟩
 refine⟨_,by rw[e1],fun n=>by rw[<- e2];exact q2.str b2 n,?_⟩
 have hP2:DqP Y' w2 { v with K:=v.K+1 }:=⟨q1.below b2,fun x hx=>(h.P.over q5 q4 x hx).imp id (fun⟨t1,t2⟩=>⟨t1.keep (b2.block x.1 t1.lt),t2⟩),fun k e=>Nat.lt_of_lt_of_le (q3 k e) b2.size⟩
 have hR2:DqR w2 ob v:=hR1.keep (X:=fun _=>False) (But.of_below b2) (fun _ _ q=>q)
 refine h.closeV hB (v':={ v with K:=v.K+1 }) ⟨hP2,⟨hR2.ls,hR2.rf,hR2.ts,hR2.rs,hR2.all⟩,hN1,h.lk⟩ (hr.up (by omega)) q4 (fun _ e=>e) (fun _ e=>e) ((q5.trans (But.of_below b2)).mono (fun k _ e=>.inl e)) (q2.low b2)
end Go.Proofs.YthfojpcibnfmgaaGreat
