import Derived.Test.YtlefjidbpjkhlaaGreatK34
import Derived.Test.YtlefjidbpjkhlaaGreatK44
import Derived.Test.YtlefjidbpjkhlaaGreatK11
import Derived.Deep.DeepCutAuto
set_option maxRecDepth 100000
set_option maxHeartbeats 16000000
namespace Go.Proofs.YtlefjidbpjkhlaaGreat
variable {B0 lo m r r0 r1 sz:Nat}
variable {Y Y':Nat->Prop}
variable {w:World}
variable {L:Nat->Option (List Int)}
open Go.RowKit Go.Deep
theorem heap3(w:World)(a b c:Obj):(((w.alloc a).alloc b).alloc c).heap[w.heap.size]?=some a/\(((w.alloc a).alloc b).alloc c).heap[w.heap.size+1]?=some b/\(((w.alloc a).alloc b).alloc c).heap[w.heap.size+2]?=some c:=by
 show (((w.heap.push a).push b).push c)[w.heap.size]?=some a/\(((w.heap.push a).push b).push c)[w.heap.size+1]?=some b/\(((w.heap.push a).push b).push c)[w.heap.size+2]?=some c
 simp only[Array.getElem?_push,Array.size_push]
 refine⟨?_,?_,?_⟩
 ·rw[if_neg (by omega),if_neg (by omega),if_pos trivial]
 ·rw[if_neg (by omega),if_pos trivial]
 ·rw[if_pos trivial]
structure Ap (B0:Nat) (Y Y2:Nat->Prop):Prop where
 y:∀k,Y k->B0<=k
 y2:∀k,Y2 k->B0<=k
 d:∀k,Y k->¬Y2 k
theorem Ap.symm{Y2:Nat->Prop}(h:Ap B0 Y Y2):Ap B0 Y2 Y:=⟨h.y2,h.y,fun k a b=>h.d k b a⟩
theorem Ap.gr{Y2:Nat->Prop}(h:Ap B0 Y Y2)(g:Gr Y Y' w)(l:∀k,Y2 k->k<w.heap.size)(hB:B0<=w.heap.size):Ap B0 Y' Y2:=by
 refine⟨fun k q=>?_,h.y2,fun k q q2=>h.d k (g k (l k q2) q) q2⟩
 rcases Nat.lt_or_ge k w.heap.size with hk | hk
 ·exact h.y k (g k hk q)
 ·omega
theorem homeKeys_in{nb:Nat}(h:∀y,(L y).isSome=true->lo<=y/\y<lo+m):(homeKeys nb L).length<=min nb (lo+m)-lo:=by
 induction nb with
 | zero=>simp[homeKeys]
 | succ nb ih=>
  rw[homeKeys_succ,List.length_append]
  split
  ·rename_i q
   have:=h nb q
   simp only[List.length_singleton]
   omega
  ·simp only[List.length_nil]
   omega
def L2w (r0 r1 c0 c1:Nat):Nat->Option (List Int):=layL (layL (fun _=>none) 65 r0 c0 0 (pagesN r0)) (65+pagesN r0) r1 c1 0 (pagesN r1)
def Cw (nb r0 r1 c0 c1:Nat) (y:Nat):List Int:=(L2w r0 r1 c0 c1 y).getD ((zPd nb).read y)
structure WSt (B:Nat) (Y Y2:Nat->Prop) (w:World) (o x0 x1:Nat) (F F2:Cf) (f1 r0 r1 t2:Nat) (T Ov:Value):Prop where
 wb:Wlb w o (wcs (.pointer (some ⟨F.p,0,none⟩)) (.pointer (some ⟨F.st,0,none⟩)) (.pointer (some ⟨t2,0,none⟩)) (.pointer (some ⟨x0,0,none⟩)) (.pointer (some ⟨x1,0,none⟩)) 65 f1 r0 r1 T Ov false)
 s0:Spb w x0 65 r0 F.st
 s1:Spb w x1 f1 r1 F.st
 no:¬Y o/\¬Y x0/\¬Y x1
 no2:¬Y2 o/\¬Y2 x0/\¬Y2 x1
 ap:Ap B Y Y2
 bb:B<=o/\B<=x0/\B<=x1
 ne:o≠x0/\o≠x1
 fo:Opn Y2 w F2 0 0 (zPd 67).read t2 (fun _=>none) [] 0
def WdP (w:World) (r0 r1 c0 c1:Nat) (e:Ending) (w':World):Prop :=
 ∃o x0 x1 F F2 Y Y2 t t2,e=.returned (.pointer (some ⟨o,0,none⟩))/\WSt w.heap.size Y Y2 w' o x0 x1 F F2 (65+pagesN r0) r0 r1 t2 (.pointer none) (.pointer (some ⟨t,0,none⟩))/\F.nb=64+pagesN r0+pagesN r1+3/\Idl Y w' F (0+1+pagesN r0+pagesN r0+1+pagesN r1+pagesN r1+2) 1 (Cw F.nb r0 r1 c0 c1)/\(Txb w' t F.j .nilIface F.st (.pointer none)/\¬Y t/\¬Y2 t/\w.heap.size<=t)/\Below w.heap.size w w'
theorem world_any{c0 c1:Nat}(h0:1<=r0/\r0<=262144)(h1:1<=r1/\r1<=262144)(hc0:1<=c0/\c0<=r0)(hc1:1<=c1/\c1<=r1)(hab:pagesN r0+pagesN r1<=28)(w:World) :
  Calls Tryz.prog 8 #[.agg #[.int .i64 (r0:Int),.int .i64 (r1:Int)],.agg #[.int .i64 (c0:Int),.int .i64 (c1:Int)]] w (WdP w r0 r1 c0 c1):=by
 have pa:=pagesN_lo h0.1
 have pb:=pagesN_lo h1.1
 refine world_walk (a:=pagesN r0) (b:=pagesN r1) (by omega) (by omega) (fun g o w0 hg ho hw0=>?_)
 have z0:w0.heap.size=w.heap.size+3:=by rw[hw0];simp
 have b0:Below w.heap.size w w0:=by
  rw[hw0]
  exact (((Below.refl _ _).alloc (Nat.le_refl _) _).alloc (by simp) _).alloc (by simp;omega) _
 have hwl:Wlb w0 o #[.pointer none,.pointer none,.pointer none,.pointer none,.pointer none,.int .i64 0,.int .i64 0,.int .i64 (r0:Int),.int .i64 (r1:Int),.pointer none,.pointer none,.bool false]:=by
  unfold Wlb
  rw[hw0,ho]
  exact (heap3 _ _ _ _).2.2
 have hgb:w0.heap[g]?=some (.cells #[.int .i64 (r0:Int),.int .i64 (r1:Int)] 26 (0,0)):=by
  rw[hw0,hg]
  exact (heap3 _ _ _ _).1
 have hcb:w0.heap[g+1]?=some (.cells #[.int .i64 (c0:Int),.int .i64 (c1:Int)] 26 (0,0)):=by
  rw[hw0,hg]
  exact (heap3 _ _ _ _).2.1
 -- blocks
 refine Calls.mono (lblocks_any h0.1 h0.2 w0) ?_
 rintro e w1 ⟨rfl,b1⟩
 have s1:=b1.size
 refine⟨rfl,?_,?_⟩
 ·have:=(b1.block g (by omega)).trans hgb
  simp[World.cell?,this]
 refine Calls.mono (lblocks_any h1.1 h1.2 w1) ?_
 rintro e w2 ⟨rfl,b2⟩
 have s2:=b2.size
 have b02:Below w0.heap.size w0 w2:=b1.trans (b2.mono s1)
 have hw2:=hwl.keep (b02.block o hwl.lt)
 refine⟨rfl,⟨⟨_,hw2.cell 5⟩,hw2.frozen 5,⟨_,hw2.cell 6⟩,hw2.frozen 6⟩,fun w3 e3=>?_⟩
 obtain⟨X,hX⟩:∃X:Nat->Prop,X=fun k=>k=o\/w0.heap.size<=k:=⟨_,rfl⟩
 have hXo:∀k,k=o->X k:=fun k q=>by rw[hX];exact .inl q
 have hXb:∀k,w0.heap.size<=k->X k:=fun k q=>by rw[hX];exact .inr q
 have hol:=hwl.lt
 have bb3:But (fun k=>k=o) w2 w3:=by rw[e3];exact (but_set w2 o 5 _).trans (but_set _ o 6 _)
 have hw3:Wlb w3 o (wcs (.pointer none) (.pointer none) (.pointer none) (.pointer none) (.pointer none) 65 (65+pagesN r0) r0 r1 (.pointer none) (.pointer none) false):=by
  have:=(hw2.set 5 (.int .i64 65)).set 6 (.int .i64 (65+(pagesN r0:Int)))
  rw[<- e3]at this
  unfold wcs
  rw[show (((65+pagesN r0:Nat)):Int)=65+(pagesN r0:Int) by omega]
  exact this
 have B3:But X w0 w3:=(But.of_below b02 (X:=X)).comp bb3 (fun k _ q=>hXo k q)
 have s3:=bb3.size
 -- two disks
 obtain⟨nb,hnb⟩:∃nb,nb=64+pagesN r0+pagesN r1+3:=⟨_,rfl⟩
 rw[show (64+(pagesN r0:Int)+(pagesN r1:Int)+3)=((nb:Nat):Int) by omega]
 refine Calls.mono (dnew_any nb (by omega) (by omega) w3) ?_
 rintro e w4 ⟨p,rfl,hp,hD,b4⟩
 have s4:=b4.size
 refine⟨p,rfl,?_⟩
 refine Calls.mono (dnew_any 67 (by omega) (by omega) w4) ?_
 rintro e w5 ⟨p2,rfl,hp2,hD2,b5⟩
 have s5:=b5.size
 have b35:Below w3.heap.size w3 w5:=b4.trans (b5.mono s4)
 have hw5:=hw3.keep (b35.block o (by omega))
 have B5:But X w0 w5:=B3.comp (But.of_below b35 (X:=fun _=>False)) (fun _ _ q=>q.elim)
 refine⟨p2,rfl,⟨⟨_,hw5.cell 0⟩,hw5.frozen 0⟩,fun w6 e6=>?_⟩
 have bb6:But (fun k=>k=o) w5 w6:=by rw[e6];exact but_set w5 o 0 _
 have s6:w6.heap.size=w5.heap.size:=by rw[e6];simp
 have hw6:=hw5.set 0 (.pointer (some ⟨p,0,none⟩))
 rw[<- e6]at hw6
 have B6:But X w0 w6:=B5.comp bb6 (fun k _ q=>hXo k q)
 have hD6:Dk (fun k=>w3.heap.size<=k/\k<w4.heap.size) w6 p (zeros (512 * nb)) [] (-1) false nb:=hD.cut.keep (fun k q hk=>(bb6.block k (by omega) (by omega)).trans (b5.block k q.2))
 have hE6:Dk (fun k=>w4.heap.size<=k/\k<w5.heap.size) w6 p2 (zeros (512 * 67)) [] (-1) false 67:=hD2.cut.keep (fun k q hk=>bb6.block k (by omega) (by omega))
 -- two stores
 refine Calls.mono (sstore_fresh hD6 (by omega) (by omega)) ?_
 rintro e w7 ⟨F,Y1,rfl,⟨eFp,eFn⟩,i1,y1,bb7⟩
 have s7:=bb7.size
 have l1:=i1.lt
 have hE7:Dk (fun k=>w4.heap.size<=k/\k<w5.heap.size) w7 p2 (zeros (512 * 67)) [] (-1) false 67:=hE6.keep (fun k q hk=>bb7.block k hk (by omega))
 have hw7:=hw6.keep (bb7.block o (by omega) (by omega))
 have B7:But X w0 w7:=B6.comp bb7 (fun k hk q=>hXb k (by omega))
 refine⟨F.st,rfl,?_⟩
 refine Calls.mono (sstore_fresh hE7 (by omega) (by omega)) ?_
 rintro e w8 ⟨F2,Y2,rfl,⟨eFp2,eFn2⟩,i2,y2,bb8⟩
 have s8:=bb8.size
 have hw8:=hw7.keep (bb8.block o (by omega) (by omega))
 have B8:But X w0 w8:=B7.comp bb8 (fun k hk q=>hXb k (by omega))
 have i1':Idl Y1 w8 F 0 0 (zPd nb).read:=i1.keep bb8 (fun k hk e1 e2=>by rcases y1 k e2 with q | q <;> omega)
 have ap:Ap w0.heap.size Y1 Y2:=⟨fun k q=>by rcases y1 k q with q | q <;> omega,fun k q=>by rcases y2 k q with q | q <;> omega,fun k q q2=>by
  have:=l1 k q
  rcases y1 k q with q | q <;> rcases y2 k q2 with q2 | q2 <;> omega⟩
 refine⟨F2.st,rfl,⟨⟨_,hw8.cell 1⟩,hw8.frozen 1⟩,fun w9 e9=>?_⟩
 have bb9:But (fun k=>k=o) w8 w9:=by rw[e9];exact but_set w8 o 1 _
 have s9:w9.heap.size=w8.heap.size:=by rw[e9];simp
 have hw9:=hw8.set 1 (.pointer (some ⟨F.st,0,none⟩))
 rw[<- e9]at hw9
 have B9:But X w0 w9:=B8.comp bb9 (fun k _ q=>hXo k q)
 have j1:Idl Y1 w9 F 0 0 (zPd nb).read:=i1'.keep bb9 (fun k _ e1 e2=>by have:=ap.y k e2;omega)
 have j2:Idl Y2 w9 F2 0 0 (zPd 67).read:=i2.keep bb9 (fun k _ e1 e2=>by have:=ap.y2 k e2;omega)
 -- two transactions
 refine Calls.mono j2.begin ?_
 rintro e w10 ⟨t2,Z2,rfl,o2,ht2,g2,bb10⟩
 have s10:=bb10.size
 have hw10:=hw9.keep (bb10.block o (by omega) (fun q=>by have:=ap.y2 _ q;omega))
 have B10:But X w0 w10:=B9.comp bb10 (fun k hk q=>hXb k (ap.y2 k q))
 have k1:Idl Y1 w10 F 0 0 (zPd nb).read:=j1.keep bb10 (fun k _ e1 e2=>ap.d k e2 e1)
 have ap2:Ap w0.heap.size Y1 Z2:=(ap.symm.gr g2 j1.lt (by omega)).symm
 refine⟨t2,rfl,?_⟩
 refine Calls.mono k1.begin ?_
 rintro e w11 ⟨t,Z1,rfl,o1,ht1,g1,bb11⟩
 have s11:=bb11.size
 have hw11:=hw10.keep (bb11.block o (by omega) (fun q=>by have:=ap2.y _ q;omega))
 have B11:But X w0 w11:=B10.comp bb11 (fun k hk q=>hXb k (ap2.y k q))
 have p2':Opn Z2 w11 F2 0 0 (zPd 67).read t2 (fun _=>none) [] 0:=o2.keep bb11 (fun k _ e1 e2=>ap2.d k e1 e2)
 have ap3:Ap w0.heap.size Z1 Z2:=ap2.gr g1 o2.lt (by omega)
 refine⟨t,rfl,⟨⟨_,hw11.cell 2⟩,hw11.frozen 2⟩,fun w12 e12=>?_⟩
 have bb12:But (fun k=>k=o) w11 w12.drew:=by rw[e12];exact (but_set w11 o 2 _).drew
 have s12:w12.drew.heap.size=w11.heap.size:=by rw[e12];simp
 have hw12:=hw11.set 2 (.pointer (some ⟨t2,0,none⟩))
 rw[<- e12]at hw12
 replace hw12:=hw12.keep ((Below.drew1 w12).block o hw12.lt)
 have B12:But X w0 w12.drew:=B11.comp bb12 (fun k _ q=>hXo k q)
 have q1:Opn Z1 w12.drew F 0 0 (zPd nb).read t (fun _=>none) [] 0:=o1.keep bb12 (fun k _ e1 e2=>by have:=ap3.y k e2;omega)
 have q2:Opn Z2 w12.drew F2 0 0 (zPd 67).read t2 (fun _=>none) [] 0:=p2'.keep bb12 (fun k _ e1 e2=>by have:=ap3.y2 k e2;omega)
 have sta:∀w',But X w0 w'->w'.heap[g]?=some (.cells #[.int .i64 (r0:Int),.int .i64 (r1:Int)] 26 (0,0))/\w'.heap[g+1]?=some (.cells #[.int .i64 (c0:Int),.int .i64 (c1:Int)] 26 (0,0)):=fun w' b=>by
  have n1:¬X g:=by rw[hX];omega
  have n2:¬X (g+1):=by rw[hX];omega
  exact⟨(b.block g (by omega) n1).trans hgb,(b.block (g+1) (by omega) n2).trans hcb⟩
 -- the first table
 obtain⟨sg,sc⟩:=sta _ B12
 refine⟨⟨hw12.cell 5,by simp[World.cell?,sg],by simp[World.cell?,sc]⟩,?_⟩
 refine Calls.mono (q1.format 65 r0 c0 (by omega) (by omega) h0.1 h0.2 hc0.1 hc0.2 (by omega) (by omega)) ?_
 rintro e w13 ⟨Z3,rfl,o3,g3,bb13⟩
 have s13:=bb13.size
 have hw13:=hw12.keep (bb13.block o (by omega) (fun q=>by have:=ap3.y _ q;omega))
 have B13:But X w0 w13:=B12.comp bb13 (fun k hk q=>hXb k (ap3.y k q))
 have q3:Opn Z2 w13 F2 0 0 (zPd 67).read t2 (fun _=>none) [] 0:=q2.keep bb13 (fun k _ e1 e2=>ap3.d k e1 e2)
 have ap4:Ap w0.heap.size Z3 Z2:=ap3.gr g3 q2.lt (by omega)
 obtain⟨sg3,sc3⟩:=sta _ B13
 refine⟨rfl,⟨hw13.cell 5,by simp[World.cell?,sg3],by simp[World.cell?,sc3]⟩,?_⟩
 -- the second table
 have bd13:=Below.drew1 w13
 have hw13d:=hw13.keep (bd13.block o hw13.lt)
 have B13d:But X w0 w13.drew:=B13.drew
 have o3d:=o3.below bd13
 have q3d:=q3.below bd13
 obtain⟨sg4,sc4⟩:=sta _ B13d
 have e65:(.int .i64 (65+(pagesN r0:Int)):Value)=.int .i64 ((65+pagesN r0:Nat):Int):=by rw[show (((65+pagesN r0:Nat)):Int)=65+(pagesN r0:Int) by omega]
 refine⟨⟨(hw13d.cell 6).trans (by rw[e65];rfl),by simp[World.cell?,sg4],by simp[World.cell?,sc4]⟩,?_⟩
 rw[e65]
 refine Calls.mono (o3d.format (65+pagesN r0) r1 c1 (by omega) (by omega) h1.1 h1.2 hc1.1 hc1.2 (by omega) (by omega)) ?_
 rintro e w14 ⟨Z4,rfl,o4,g4,bb14⟩
 have s14:=bb14.size
 have s13d:w13.drew.heap.size=w13.heap.size:=rfl
 have hw14:=hw13d.keep (bb14.block o (by omega) (fun q=>by have:=ap4.y _ q;omega))
 have B14:But X w0 w14:=B13d.comp bb14 (fun k hk q=>hXb k (ap4.y k q))
 have q4:Opn Z2 w14 F2 0 0 (zPd 67).read t2 (fun _=>none) [] 0:=q3d.keep bb14 (fun k _ e1 e2=>ap4.d k e1 e2)
 have ap5:Ap w0.heap.size Z4 Z2:=ap4.gr g4 q3d.lt (by omega)
 obtain⟨sg5,sc5⟩:=sta _ B14
 refine⟨rfl,⟨(hw14.cell 6).trans (by rfl),by simp[World.cell?,sg5],by simp[World.cell?,sc5]⟩,?_⟩
 -- the commit
 have hL2:∀y,(L2w r0 r1 c0 c1 y).isSome=true->65<=y/\y<65+(pagesN r0+pagesN r1):=fun y hy=>by
  unfold L2w at hy
  rw[layL_apply,layL_apply]at hy
  split at hy
  ·omega
  ·split at hy
   ·omega
   ·simp at hy
 have hkk:=homeKeys_in (nb:=F.nb) hL2
 refine Calls.mono (o4.commit (by omega) (by
  have:(homeKeys F.nb (L2w r0 r1 c0 c1)).length<=28:=by omega
  exact this)) ?_
 rintro e w15 ⟨Z5,rfl,i5,tx,ntx,g5,bb15⟩
 have s15:=bb15.size
 have hto:=o4.yst.2.2
 have hty:=o4.yst.2.1
 have hw15:=hw14.keep (bb15.block o hw14.lt (fun q=>by have:=ap5.y _ q;omega))
 have B15:But X w0 w15:=B14.comp bb15 (fun k hk q=>hXb k (ap5.y k q))
 have q5:Opn Z2 w15 F2 0 0 (zPd 67).read t2 (fun _=>none) [] 0:=q4.keep bb15 (fun k _ e1 e2=>ap5.d k e1 e2)
 have ap6:Ap w0.heap.size Z5 Z2:=ap5.gr g5 q4.lt (by omega)
 refine⟨rfl,?_⟩
 -- both are opened
 have hoZ:¬Z5 o:=fun q=>by have:=ap6.y _ q;omega
 refine Calls.mono (wopen_any i5 hw15 hoZ (by omega) ⟨by omega,by omega⟩ ⟨by omega,by omega⟩ h0 h1) ?_
 rintro e w16 ⟨x0,x1,Z6,rfl,i6,hw16,sp0,sp1,⟨xl0,xl1,nx0,nx1⟩,g6,bb16⟩
 have s16:=bb16.size
 have B16:But X w0 w16:=B15.comp bb16 (fun k hk q=>by
  rcases q with q | q
  ·exact hXb k (ap6.y k q)
  ·exact hXo k q)
 have l5:=q5.lt
 have q6:Opn Z2 w16 F2 0 0 (zPd 67).read t2 (fun _=>none) [] 0:=q5.keep bb16 (fun k _ e1 e2=>by
  rcases e1 with e1 | e1
  ·exact ap6.d k e1 e2
  ·have:=ap6.y2 k e2
   omega)
 have ap7:Ap w0.heap.size Z6 Z2:=ap6.gr g6 l5 (by omega)
 have tx6:Txb w16 t F.j .nilIface F.st (.pointer none):=tx.keep (bb16.block t tx.lt (fun q=>by
  rcases q with q | q
  ·exact ntx q
  ·have:=ap5.y _ hty
   omega))
 refine⟨rfl,⟨⟨_,hw16.cell 10⟩,hw16.frozen 10⟩,?_⟩
 have bb17:=but_set w16 o 10 (.pointer (some ⟨t,0,none⟩))
 have hw17:=hw16.set 10 (.pointer (some ⟨t,0,none⟩))
 have hx0o:x0≠o:=by omega
 have hx1o:x1≠o:=by omega
 have hto2:t≠o:=by have:=ap5.y _ hty;omega
 have hoZ6:¬Z6 o:=fun q=>by have:=ap7.y _ q;omega
 have B17:But X w0 (w16.setCell ⟨o,10,none⟩ (.pointer (some ⟨t,0,none⟩))):=B16.comp bb17 (fun k _ q=>hXo k q)
 refine⟨o,x0,x1,F,F2,Z6,Z2,t,t2,rfl,⟨?_,sp0.keep (bb17.block x0 sp0.lt hx0o),sp1.keep (bb17.block x1 sp1.lt hx1o),⟨hoZ6,nx0,nx1⟩,⟨fun q=>(by have:=ap7.y2 _ q;omega),fun q=>(by have:=l5 _ q;omega),fun q=>(by have:=l5 _ q;omega)⟩,⟨fun k q=>(by have:=ap7.y k q;omega),fun k q=>(by have:=ap7.y2 k q;omega),ap7.d⟩,⟨by omega,by omega,by omega⟩,⟨fun q=>hx0o q.symm,fun q=>hx1o q.symm⟩,q6.keep bb17 (fun k _ e1 e2=>by have:=ap7.y2 k e2;omega)⟩,eFn.trans hnb,?_,⟨tx6.keep (bb17.block t tx6.lt hto2),fun q=>ntx (g6 t tx.lt q),fun q=>ap5.d t hty q,by have:=ap5.y _ hty;omega⟩,?_⟩
 ·rw[eFp]
  exact hw17
 ·refine (show Idl Z6 w16 F _ 1 _ from ?_).keep bb17 (fun k _ e1 e2=>hoZ6 (e1 ▸ e2))
  rw[eFn]
  exact i6
 ·refine b0.trans ((B17.below (B:=w.heap.size) (by omega) (fun k hk=>by rw[hX];omega)))
open Go.RowKit Go.Deep
open Go.RowKit Go.Deep
theorem takeSp(L cs:List Int)(off:Nat)(h:off<=L.length):(splice L off cs).take off=L.take off:=by
 unfold splice
 rw[List.take_append_of_le_length (by rw[List.length_take];omega),List.take_take,Nat.min_self]
theorem dropSp(L cs:List Int)(off:Nat)(h:off<=L.length):(splice L off cs).drop off=cs++L.drop (off+cs.length):=by
 unfold splice
 rw[List.drop_append_of_le_length (by rw[List.length_take];omega),List.drop_eq_nil_of_le (by rw[List.length_take];omega),List.nil_append]
theorem take_spgZ(r n:Nat):(spgZ r n).take 21=hdgZ r n:=by
 unfold spgZ splice
 rw[List.take_zero,List.nil_append,List.take_append_of_le_length (by rw[length_hdgZ];omega),List.take_of_length_le (by rw[length_hdgZ];omega)]
theorem isPg_spg(r n:Nat):isPg r n (spgZ r n)=true:=decide_eq_true (take_spgZ r n)
theorem isPg_lpg(r sz lf q:Nat):isPg r q (lpg r sz lf q)=true:=by
 unfold lpg
 split
 ·rename_i h
  rw[h]
  refine decide_eq_true ?_
  rw[takeSp _ _ _ (by rw[length_spgZ];omega),take_spgZ]
 ·exact isPg_spg r q
theorem drop_lpg(r sz lf:Nat):(lpg r sz lf 0).drop 21=sheadZ sz lf++(spgZ r 0).drop 29:=by
 unfold lpg
 rw[if_pos rfl,dropSp _ _ _ (by rw[length_spgZ];omega),length_sheadZ]
theorem sheadZ_eq(sz lf:Nat):sheadZ sz lf=Pl.dig (sz:Int) 3++Pl.dig (lf:Int) 5:=by simp[sheadZ,packZ]
theorem szOf_lpg{lf:Nat}(h:sz<=262144):szOf (lpg r sz lf 0)=(sz:Int):=by
 unfold szOf
 rw[drop_lpg,sheadZ_eq,List.append_assoc,List.take_append_of_le_length (by rw[Pl.length_dig];omega),List.take_of_length_le (by rw[Pl.length_dig];omega)]
 exact Pl.num_dig _ _ (by omega) (by omega)
end Go.Proofs.YtlefjidbpjkhlaaGreat
