import Derived.Test.YtlefjidbpjkhlaaGreatK30
set_option maxRecDepth 100000
set_option maxHeartbeats 16000000
namespace Go.Proofs.YtlefjidbpjkhlaaGreat
variable {Y:Nat->Prop}
variable {w:World}
variable {F:Cf}
variable {K N j n r t tk tr:Nat}
variable {C:Nat->List Int}
variable {L:Nat->Option (List Int)}
variable {Ms:List (Nat->Option (List Int))}
variable {zs:List Int}
open Go.RowKit Go.Deep
theorem Opn.nb(h:Opn Y w F K N C t L Ms n):F.nb<=524288:=by
 obtain⟨_,_,_,_,_,_,_,_,_,_,_,_,_,q,_⟩:=h
 exact q
theorem pagesN_le(h:r<=262144):pagesN r<=557:=by
 have:=countsN_le h
 have:=indexN_le h
 unfold pagesN
 omega
theorem Opn.checkPages(h:Opn Y w F K N C t L Ms n)(f r:Nat)(hr:r<=262144)(hK:K+pagesN r<4611686018427387904)(h1:64<=f)(h2:f+pagesN r<=F.nb) :
  Calls Tryz.prog 48 #[.agg #[.int .i64 (f:Int),.int .i64 (r:Int)],.pointer (some ⟨t,0,none⟩)] w fun e w'=>∃Y',e=.returned (.int .i64 0)/\Opn Y' w' F (K+pagesN r) N C t L Ms n/\Gr Y Y' w/\But Y w w':=by
 refine poz fun PO hPO=>?_
 obtain⟨w0,hw0⟩:∃w0,w0=w.alloc (.cells #[.int .i64 (f:Int),.int .i64 (r:Int)] 92):=⟨_,rfl⟩
 have z0:w0.heap.size=w.heap.size+1:=by rw[hw0];simp
 have b0:Below w.heap.size w w0:=by rw[hw0];exact (Below.refl _ _).alloc (Nat.le_refl _) _
 have hblk:w0.heap[w.heap.size]?=some (.cells #[.int .i64 (f:Int),.int .i64 (r:Int)] 92 (0,0)):=by rw[hw0];exact Array.getElem?_push_size
 have hlt:=h.lt
 have hnb:=h.nb
 have hpg:=pagesN_le hr
 have HC:Hid (∀wr,But Y w0 wr->wr.cell? ⟨w.heap.size,0,none⟩=some (.int .i64 (f:Int))/\wr.cell? ⟨w.heap.size,1,none⟩=some (.int .i64 (r:Int))):=fun wr b=>by
  have hb2:=(b.block w.heap.size (by omega) (fun q=>by have:=hlt _ q;omega)).trans hblk
  exact⟨by simp[World.cell?,hb2],by simp[World.cell?,hb2]⟩
 have FIN:Hid (∀wr Y',Opn Y' wr F (K+pagesN r) N C t L Ms n->Gr Y Y' w0->But Y w0 wr->PO (.returned (.int .i64 0)) wr):=fun wr Y' q1 q2 q3=>by
  rw[hPO]
  exact⟨Y',rfl,q1,fun k hk q=>q2 k (by omega) q,(But.of_below b0 (X:=Y)).trans q3⟩
 have HS:Hid (Opn Y w0 F (K+0) N C t L Ms n):=h.below b0
 have HP:=hid (pages_any (f:Int) r hr w0)
 obtain⟨k0,k1⟩:=HC.out w0 (But.refl _ _)
 have HW:=hid hw0
 generalize pagesN r=PN at *
 clear hw0 b0 hblk hPO h hlt z0
 go_enter Tryz.func48,Tryz.ntmps48
 go_wp2_with fail
 rw[<- HW.out]
 go_wp2_with fail
 refine Calls.mono HP.out ?_
 rintro e w1 ⟨rfl,b1⟩
 have B1:=hid b1
 have HS1:=hid (HS.out.below b1)
 clear b1 HP HS k0 k1 HW
 go_wp2_with fail
 go_loopw [10] (fun iv wr=>∃q:Nat,q<=PN/\iv=.int .i64 (q:Int)/\(∃Y',Opn Y' wr F (K+q) N C t L Ms n/\Gr Y Y' w0)/\But Y w0 wr) (fun iv _=>PN-(intOf iv).toNat)
 case atStart=>exact⟨0,Nat.zero_le _,rfl,⟨Y,HS1.out,Gr.refl _ _⟩,But.of_below B1.out⟩
 case round=>
  clear HS1 B1
  rename World=>wo
  obtain⟨q,hq,rfl,⟨Y',hS,hG⟩,hB⟩:=hrel
  by_cases hqn:q<PN
  ·have hqn':(q:Int)<(PN:Int):=by omega
   have HR:Hid (Calls Tryz.prog 47 #[.pointer (some ⟨t,0,none⟩),.int .i64 ((f:Int)+(q:Int))] wo fun e w'=>∃g cp,e=.returned (.tuple #[.slice (some ⟨g,0,none⟩) 512 cp,.int .i64 0])/\(∃Y',Opn Y' w' F (K+(q+1)) N C t L Ms n/\Gr Y Y' w0)/\But Y w0 w'):=by
    rw[show ((f:Int)+(q:Int))=((f+q:Nat):Int) by omega]
    refine Calls.mono (hS.read (by omega) (f+q) (by omega) (by omega)) ?_
    rintro e w2 ⟨g,cp,Y2,rfl,r1,r2,r3,r4,r5,r6,r7⟩
    have hs:=hB.size
    exact⟨g,cp,rfl,⟨Y2,r1,hG.trans r6 hs⟩,hB.comp r7 hG⟩
   have hc0:=(HC.out wo hB).1
   clear hS hG hB
   go_wp2_with fail
   refine Calls.mono HR.out ?_
   rintro e w2 ⟨g,cp,rfl,q1,q2⟩
   have NX:=hid (And.intro q1 q2)
   clear q1 q2 HR hc0
   go_wp2_with fail
   go_roundw
   case rel=>exact⟨q+1,by omega,by go_num,NX.out.1,NX.out.2⟩
   case measure=>simp[intOf];omega
  ·have hqn':¬(q:Int)<(PN:Int):=by omega
   have hqe:q=PN:=by omega
   subst hqe
   have FN:=hid (FIN.out wo Y' hS hG hB)
   clear hS hG hB FIN HC
   go_wp2
   exact FN.out
def lpg (r sz lf q:Nat):List Int:=if q=0 then splice (spgZ r 0) 21 (sheadZ sz lf) else spgZ r q
def layL (L:Nat->Option (List Int)) (f r sz lf:Nat):Nat->Nat->Option (List Int)
 | 0=>L
 | q+1=>putL (layL L f r sz lf q) (f+q) (lpg r sz lf q)
theorem layL_apply(L:Nat->Option (List Int))(f r sz lf q y:Nat):layL L f r sz lf q y=if f<=y/\y<f+q then some (lpg r sz lf (y-f)) else L y:=by
 induction q with
 | zero=>
  rw[if_neg (by omega)]
  rfl
 | succ q ih=>
  unfold layL putL
  by_cases hy:y=f+q
  ·rw[if_pos hy,if_pos (by omega),hy,Nat.add_sub_cancel_left]
  ·rw[if_neg hy,ih]
   by_cases h1:f<=y/\y<f+q
   ·rw[if_pos h1,if_pos (by omega)]
   ·rw[if_neg h1,if_neg (by omega)]
theorem length_spgZ(r n:Nat):(spgZ r n).length=512:=by
 unfold spgZ splice zeros
 simp only[List.length_append,List.length_take,List.length_drop,length_hdgZ,List.length_replicate]
 omega
theorem isB_spgZ(r n:Nat):Pl.isB (spgZ r n):=isB_splice (isB_zeros' _) (isB_hdgZ r n) _
theorem isB_sheadZ(sz lf:Nat):Pl.isB (sheadZ sz lf):=isB_packZ _
theorem Opn.lay(h:Opn Y w F K N C t L Ms n)(f r sz lf:Nat)(hr:r<=262144)(hsz:sz<=262144)(hlf:lf<=1099511627775)(hK:K+pagesN r<4611686018427387904)(hn:n+2 * pagesN r<=1073741823)(h1:64<=f)(h2:f+pagesN r<=F.nb) :
  Calls Tryz.prog 49 #[.agg #[.int .i64 (f:Int),.int .i64 (r:Int)],.pointer (some ⟨t,0,none⟩),.agg #[.int .i64 (sz:Int),.int .i64 (lf:Int)]] w fun e w'=>∃Y',e=.returned (.int .i64 0)/\Opn Y' w' F (K+pagesN r) N C t (layL L f r sz lf (pagesN r)) Ms (n+2 * pagesN r)/\Gr Y Y' w/\But Y w w':=by
 refine poz fun PO hPO=>?_
 obtain⟨w0,hw0⟩:∃w0,w0=(w.alloc (.cells #[.int .i64 (f:Int),.int .i64 (r:Int)] 92)).alloc (.cells #[.int .i64 (sz:Int),.int .i64 (lf:Int)] 99):=⟨_,rfl⟩
 have z0:w0.heap.size=w.heap.size+2:=by rw[hw0];simp
 have b0:Below w.heap.size w w0:=by rw[hw0];exact ((Below.refl _ _).alloc (Nat.le_refl _) _).alloc (by simp) _
 have hblk:w0.heap[w.heap.size]?=some (.cells #[.int .i64 (f:Int),.int .i64 (r:Int)] 92 (0,0)):=by
  rw[hw0]
  exact (((Below.refl _ (w.alloc (.cells #[.int .i64 (f:Int),.int .i64 (r:Int)] 92))).alloc (Nat.le_refl _) _).block w.heap.size (by simp)).trans Array.getElem?_push_size
 have hblk2:w0.heap[w.heap.size+1]?=some (.cells #[.int .i64 (sz:Int),.int .i64 (lf:Int)] 99 (0,0)):=by
  rw[hw0]
  exact heap_alloc2_new _ _ _
 have hlt:=h.lt
 have hnb:=h.nb
 have hpg:=pagesN_le hr
 have HC:Hid (∀wr,But Y w0 wr->(wr.cell? ⟨w.heap.size,0,none⟩=some (.int .i64 (f:Int))/\wr.cell? ⟨w.heap.size,1,none⟩=some (.int .i64 (r:Int)))/\(wr.cell? ⟨w.heap.size+1,0,none⟩=some (.int .i64 (sz:Int))/\wr.cell? ⟨w.heap.size+1,1,none⟩=some (.int .i64 (lf:Int)))):=fun wr b=>by
  have hb2:=(b.block w.heap.size (by omega) (fun q=>by have:=hlt _ q;omega)).trans hblk
  have hb3:=(b.block (w.heap.size+1) (by omega) (fun q=>by have:=hlt _ q;omega)).trans hblk2
  exact⟨⟨by simp[World.cell?,hb2],by simp[World.cell?,hb2]⟩,⟨by simp[World.cell?,hb3],by simp[World.cell?,hb3]⟩⟩
 have FIN:Hid (∀wr Y',Opn Y' wr F (K+pagesN r) N C t (layL L f r sz lf (pagesN r)) Ms (n+2 * pagesN r)->Gr Y Y' w0->But Y w0 wr->PO (.returned (.int .i64 0)) wr):=fun wr Y' q1 q2 q3=>by
  rw[hPO]
  exact⟨Y',rfl,q1,fun k hk q=>q2 k (by omega) q,(But.of_below b0 (X:=Y)).trans q3⟩
 have HS:Hid (Opn Y w0 F (K+0) N C t (layL L f r sz lf 0) Ms (n+2 * 0)):=h.below b0
 have HP:=hid (pages_any (f:Int) r hr w0)
 obtain⟨⟨k0,k1⟩,⟨k2,k3⟩⟩:=HC.out w0 (But.refl _ _)
 have HW:=hid hw0
 generalize pagesN r=PN at *
 clear hw0 b0 hblk hblk2 hPO h hlt z0
 go_enter Tryz.func49,Tryz.ntmps49
 go_wp2_with fail
 rw[<- HW.out]
 go_wp2_with fail
 refine Calls.mono HP.out ?_
 rintro e w1 ⟨rfl,b1⟩
 have B1:=hid b1
 have HS1:=hid (HS.out.below b1)
 clear b1 HP HS k0 k1 k2 k3 HW
 go_wp2_with fail
 go_loopw [12] (fun iv wr=>∃q:Nat,q<=PN/\iv=.int .i64 (q:Int)/\(∃Y',Opn Y' wr F (K+q) N C t (layL L f r sz lf q) Ms (n+2 * q)/\Gr Y Y' w0)/\But Y w0 wr) (fun iv _=>PN-(intOf iv).toNat)
 case atStart=>exact⟨0,Nat.zero_le _,rfl,⟨Y,HS1.out,Gr.refl _ _⟩,But.of_below B1.out⟩
 case round=>
  clear HS1 B1
  rename World=>wo
  obtain⟨q,hq,rfl,⟨Y',hS,hG⟩,hB⟩:=hrel
  by_cases hqn:q<PN
  ·have hqn':(q:Int)<(PN:Int):=by omega
   have HB:=hid (sblank_any (r:=r) (n:=q) (f:Int) hr (by omega) wo)
   have hlt':=hS.lt
   have HWR:Hid (∀w3 g,wo.heap.size<=g->Own w3 g 512 512 (lpg r sz lf q)->Pl.isB (lpg r sz lf q)->But (fun k=>wo.heap.size<=k) wo w3->Calls Tryz.prog 52 #[.pointer (some ⟨t,0,none⟩),.int .i64 ((f:Int)+(q:Int)),.slice (some ⟨g,0,none⟩) 512 512] w3 fun e w'=>e=.returned (.int .i64 0)/\(∃Y',Opn Y' w' F (K+(q+1)) N C t (layL L f r sz lf (q+1)) Ms (n+2 * (q+1))/\Gr Y Y' w0)/\But Y w0 w'):=fun w3 g hg hO hb hb3=>by
    rw[show ((f:Int)+(q:Int))=((f+q:Nat):Int) by omega]
    have hS3:=hS.keep hb3 (fun k hk e _=>by omega)
    refine Calls.mono (hS3.write (by omega) (by omega) (f+q) (by omega) (by omega) (some ⟨g,0,none⟩) 512 _ (hO.rdn hb (fun e=>by have:=hlt' _ e;omega))) ?_
    rintro e w2 ⟨Y2,rfl,r1,r2,r3⟩
    have hs:=hB.size
    have hs3:=hb3.size
    have b03:But Y w0 w3:=hB.comp hb3 (fun k hk e=>by omega)
    exact⟨rfl,⟨Y2,r1,hG.trans r2 (by omega)⟩,b03.comp r3 hG⟩
   have hc0:=HC.out wo hB
   have HC2:Hid (∀w3,But (fun k=>wo.heap.size<=k) wo w3->(w3.cell? ⟨w.heap.size,0,none⟩=some (.int .i64 (f:Int))/\w3.cell? ⟨w.heap.size,1,none⟩=some (.int .i64 (r:Int)))/\(w3.cell? ⟨w.heap.size+1,0,none⟩=some (.int .i64 (sz:Int))/\w3.cell? ⟨w.heap.size+1,1,none⟩=some (.int .i64 (lf:Int)))):=fun w3 b=>HC.out w3 (hB.comp b (fun k hk e=>by have:=hB.size;omega))
   obtain⟨⟨c0,c1⟩,_⟩:=hc0
   clear hS hG hB hlt'
   go_wp2_with fail
   refine Calls.mono HB.out ?_
   rintro e w2 ⟨g,rfl,hg,hk,b2⟩
   have hB2:But (fun k=>wo.heap.size<=k) wo w2:=But.of_below b2
   have hO2:Own w2 g 512 512 (spgZ r q):=Own.of_blk hk (length_spgZ r q) (by decide)
   obtain⟨⟨d0,d1⟩,⟨d2,d3⟩⟩:=HC2.out w2 hB2
   clear hk b2 HB c0 c1
   by_cases hq0:q=0
   ·subst hq0
    have HPT:Hid (Calls Tryz.prog 92 #[.agg #[.int .i64 (sz:Int),.int .i64 (lf:Int)],.slice (some ⟨g,0,none⟩) 512 512] w2 fun e w3=>e=.returned (.tuple #[])/\w3.cell? ⟨w.heap.size,0,none⟩=some (.int .i64 (f:Int))/\Calls Tryz.prog 52 #[.pointer (some ⟨t,0,none⟩),.int .i64 ((f:Int)+((0:Nat):Int)),.slice (some ⟨g,0,none⟩) 512 512] w3 fun e w'=>e=.returned (.int .i64 0)/\(∃Y',Opn Y' w' F (K+(0+1)) N C t (layL L f r sz lf (0+1)) Ms (n+2 * (0+1))/\Gr Y Y' w0)/\But Y w0 w'):=by
     refine Calls.mono (hput_any hsz hlf hO2) ?_
     rintro e w3 ⟨rfl,hO3,hB3⟩
     have b3:But (fun k=>wo.heap.size<=k) wo w3:=hB2.comp hB3 (fun k hk e=>by omega)
     exact⟨rfl,(HC2.out w3 b3).1.1,HWR.out w3 g hg hO3 (isB_splice (isB_spgZ r 0) (isB_sheadZ sz lf) _) b3⟩
    clear hO2 hB2 HWR HC2 d0 d1
    go_wp2_with fail
    refine Calls.mono HPT.out ?_
    rintro e w3 ⟨rfl,d4,hW⟩
    have HW2:=hid hW
    clear hW HPT d2 d3
    go_wp2_with fail
    refine Calls.mono HW2.out ?_
    rintro e w4 ⟨rfl,q1,q2⟩
    have NX:=hid (And.intro q1 q2)
    clear q1 q2 HW2 d4
    go_wp2_with fail
    go_roundw
    case rel=>exact⟨0+1,by omega,by go_num,NX.out.1,NX.out.2⟩
    case measure=>simp[intOf];omega
   ·have hq0':¬(q:Int)=0:=by omega
    have e1:spgZ r q=lpg r sz lf q:=by unfold lpg;rw[if_neg hq0]
    have HW2:=hid (HWR.out w2 g hg (e1 ▸ hO2) (e1 ▸ isB_spgZ r q) hB2)
    clear hO2 hB2 HWR HC2 d1 d2 d3 e1
    go_wp2_with fail
    refine Calls.mono HW2.out ?_
    rintro e w4 ⟨rfl,q1,q2⟩
    have NX:=hid (And.intro q1 q2)
    clear q1 q2 HW2 d0
    go_wp2_with fail
    go_roundw
    case rel=>exact⟨q+1,by omega,by go_num,NX.out.1,NX.out.2⟩
    case measure=>simp[intOf];omega
  ·have hqn':¬(q:Int)<(PN:Int):=by omega
   have hqe:q=PN:=by omega
   subst hqe
   have FN:=hid (FIN.out wo Y' hS hG hB)
   clear hS hG hB FIN HC
   go_wp2
   exact FN.out
open Go.RowKit Go.Deep
def cpg (b:Bool) (r m:Nat) (zs:List Int):List Int:=if isPg r m zs && b then zs else spgZ r m
def PcP (Y:Nat->Prop) (w:World) (zs:List Int) (X:(Nat->Prop)->World->Prop) (e:Ending) (w':World):Prop :=
 ∃g cp Y',e=.returned (.tuple #[.slice (some ⟨g,0,none⟩) 512 cp,.int .i64 0])/\X Y' w'/\w.heap.size<=g/\Own w' g 512 cp zs/\Pl.isB zs/\¬Y' g/\Gr Y Y' w/\But Y w w'
theorem Opn.pageC(h:Opn Y w F K N C t L Ms n)(hK:K<4611686018427387904)(b:Bool)(f r m:Nat)(h1:r<=262144)(h2:m<=1024)(hy1:64<=f+m)(hy2:f+m<F.nb) :
  Calls Tryz.prog 87 #[.agg #[.int .i64 (f:Int),.int .i64 (r:Int)],.iface 164 (.agg #[.pointer (some ⟨F.st,0,none⟩),.bool b]),.int .i64 (m:Int)] w (PcP Y w (cpg b r m (C (f+m))) (fun Y' w'=>Opn Y' w' F (K+1) N C t L Ms n)):=by
 obtain⟨zs,hzs⟩:∃zs,zs=C (f+m):=⟨_,rfl⟩
 rw[<- hzs]
 refine poz fun PO hPO=>?_
 obtain⟨w0,hw0⟩:∃w0,w0=w.alloc (.cells #[.int .i64 (f:Int),.int .i64 (r:Int)] 92):=⟨_,rfl⟩
 have z0:w0.heap.size=w.heap.size+1:=by rw[hw0];simp
 have b0:Below w.heap.size w w0:=by rw[hw0];exact (Below.refl _ _).alloc (Nat.le_refl _) _
 have hblk:w0.heap[w.heap.size]?=some (.cells #[.int .i64 (f:Int),.int .i64 (r:Int)] 92 (0,0)):=by rw[hw0];exact Array.getElem?_push_size
 have hlt:=h.lt
 have hnb:=h.nb
 have HR:Hid (Calls Tryz.prog 30 #[.pointer (some ⟨F.st,0,none⟩),.int .i64 ((f:Int)+(m:Int))] w0 fun e w2=>∃G cap,e=.returned (.tuple #[.slice (some ⟨G,0,none⟩) 512 cap,.int .i64 0])/\(w2.cell? ⟨w.heap.size,0,none⟩=some (.int .i64 (f:Int))/\w2.cell? ⟨w.heap.size,1,none⟩=some (.int .i64 (r:Int)))/\Calls Tryz.prog 140 #[.agg #[.int .i64 (f:Int),.int .i64 (r:Int)],.slice (some ⟨G,0,none⟩) 512 cap,.int .i64 (m:Int)] w2 fun e w3=>e=.returned (.bool (isPg r m zs))/\∀w4,w4=w3.alloc (.cells #[.pointer (some ⟨F.st,0,none⟩),.bool b] 164)->((isPg r m zs && b)=true->PO (.returned (.tuple #[.slice (some ⟨G,0,none⟩) 512 cap,.int .i64 0])) w4)/\((isPg r m zs && b)=false->(w4.cell? ⟨w.heap.size,0,none⟩=some (.int .i64 (f:Int))/\w4.cell? ⟨w.heap.size,1,none⟩=some (.int .i64 (r:Int)))/\Calls Tryz.prog 91 #[.agg #[.int .i64 (f:Int),.int .i64 (r:Int)],.int .i64 (m:Int)] w4 fun e w5=>∃g,e=.returned (.slice (some ⟨g,0,none⟩) 512 512)/\PO (.returned (.tuple #[.slice (some ⟨g,0,none⟩) 512 512,.int .i64 0])) w5)):=by
  rw[show ((f:Int)+(m:Int))=((f+m:Nat):Int) by omega]
  refine Calls.mono ((h.below b0).sread hK (f+m) hy1 hy2) ?_
  rintro e w2 ⟨g,cp,Y',rfl,r1,r2,r3,r4,r5,r6,r7⟩
  rw[<- hzs]at r3 r4
  have hs2:=r7.size
  have hb2:=(r7.block w.heap.size (by omega) (fun q=>by have:=hlt _ q;omega)).trans hblk
  refine⟨g,cp,rfl,⟨by simp[World.cell?,hb2],by simp[World.cell?,hb2]⟩,Calls.mono (isPage_any (f:Int) h1 h2 r3 r4) ?_⟩
  rintro e w3 ⟨rfl,b3⟩
  refine⟨rfl,fun w4 hw4=>?_⟩
  have b4:Below w3.heap.size w3 w4:=by rw[hw4];exact (Below.refl _ _).alloc (Nat.le_refl _) _
  have b24:Below w2.heap.size w2 w4:=b3.trans (b4.mono b3.size)
  have gg:Gr Y Y' w:=fun k hk q=>r6 k (by omega) q
  have bb:But Y w w4:=((But.of_below b0 (X:=Y)).trans r7).comp (But.of_below b24 (X:=fun _=>False)) (fun _ _ q=>q.elim)
  have hl':=r1.lt
  refine⟨fun q=>?_,fun q=>?_⟩
  ·rw[hPO]
   have hc:cpg b r m zs=zs:=by unfold cpg;rw[if_pos q]
   rw[hc]
   exact⟨g,cp,Y',rfl,r1.below b24,by omega,r3.keep (b24.block g r3.lt),r4,r5,gg,bb⟩
  ·have hc:cpg b r m zs=spgZ r m:=by unfold cpg;rw[if_neg (by rw[q];decide)]
   have hb4:=(b24.block w.heap.size (by omega)).trans hb2
   refine⟨⟨by simp[World.cell?,hb4],by simp[World.cell?,hb4]⟩,Calls.mono (sblank_any (r:=r) (n:=m) (f:Int) h1 h2 w4) ?_⟩
   rintro e w5 ⟨g5,rfl,hg5,hk5,b5⟩
   have s4:=b24.size
   have s0:=b0.size
   refine⟨g5,rfl,?_⟩
   rw[hPO,hc]
   exact⟨g5,512,Y',rfl,(r1.below b24).below b5,by omega,Own.of_blk hk5 (length_spgZ r m) (by decide),isB_spgZ r m,fun q=>(by have:=hl' _ q;omega),gg,bb.comp (But.of_below b5 (X:=fun _=>False)) (fun _ _ q=>q.elim)⟩
 have HW:=hid hw0
 have k0:w0.cell? ⟨w.heap.size,0,none⟩=some (.int .i64 (f:Int)):=by simp[World.cell?,hblk]
 clear hw0 b0 z0 hblk hPO h hzs hlt
 go_enter Tryz.func87,Tryz.ntmps87
 go_wp2_with (rw[readCm])
 rw[<- HW.out]
 refine Calls.mono HR.out ?_
 rintro e w2 ⟨G,cap,rfl,⟨c0,c1⟩,h3⟩
 have H3:=hid h3
 clear h3 HR k0 HW
 go_wp2_with fail
 refine Calls.mono H3.out ?_
 rintro e w3 ⟨rfl,h4⟩
 obtain⟨q1,q2⟩:=h4 _ rfl
 have Q1:=hid q1
 have Q2:=hid q2
 clear h4 H3 c0 c1 q1 q2
 have ta1:=fun u=>ta_comC F.st b u
 generalize isPg r m zs=bb at *
 cases bb with
 | true=>
  cases b with
  | true=>
   have FIN:=hid (Q1.out rfl)
   clear Q1 Q2
   go_wp2
   exact FIN.out
  | false=>
   obtain⟨⟨c0,c1⟩,h5⟩:=Q2.out rfl
   have H5:=hid h5
   clear Q1 Q2 h5
   go_wp2_with fail
   refine Calls.mono H5.out ?_
   rintro e w5 ⟨g,rfl,q⟩
   have FIN:=hid q
   clear q H5
   go_wp2
   exact FIN.out
 | false=>
  obtain⟨⟨c0,c1⟩,h5⟩:=Q2.out rfl
  have H5:=hid h5
  clear Q1 Q2 h5
  go_wp2_with fail
  refine Calls.mono H5.out ?_
  rintro e w5 ⟨g,rfl,q⟩
  have FIN:=hid q
  clear q H5
  go_wp2
  exact FIN.out
open Go.RowKit
theorem or_i64{n z:Int}(h0:0<=n)(h1:n<1099511627776)(z0:0<=z)(z1:z<256):bits BinOp.or IntKind.i64 (n * 256) z=z+256 * n:=by
 obtain⟨a,rfl⟩:=Int.eq_ofNat_of_zero_le h0
 obtain⟨y,rfl⟩:=Int.eq_ofNat_of_zero_le z0
 show IntKind.i64.wrap ((BitVec.ofInt 64 ((a:Int) * 256) ||| BitVec.ofInt 64 (y:Int)).toNat:Int)=_
 rw[BitVec.toNat_or,BitVec.toNat_ofInt,BitVec.toNat_ofInt,show (((a:Int) * 256) % ((2 ^ 64:Nat):Int)).toNat=a * 256 by omega,show ((y:Int) % ((2 ^ 64:Nat):Int)).toNat=y by omega,Pl.lor_add a y (by omega),IntKind.wrap_i64]
 omega
theorem num_lt5(hb:Pl.isB zs)(j:Nat)(hn:zs.length<=6):Pl.num (zs.drop (j+1))<1099511627776:=by
 have h:=Pl.num_lt (Pl.isB_drop hb (j+1))
 have hl:(zs.drop (j+1)).length<=5:=by simp;omega
 have h2:(256:Int) ^ (zs.drop (j+1)).length<=1099511627776:=by
  generalize (zs.drop (j+1)).length=n at hl
  rcases (show n=0\/n=1\/n=2\/n=3\/n=4\/n=5 from by omega) with rfl | rfl | rfl | rfl | rfl | rfl <;> decide
 omega
theorem snumber_step(hb:Pl.isB zs)(hj:j<zs.length)(hn:zs.length<=6) :
  bits BinOp.or IntKind.i64 (Pl.num (List.drop (j+1) zs) * 256) (zs[j]?.getD 0)=Pl.num (zs.drop j):=by
 rw[Pl.num_step hj]
 have hz:=Pl.isB_getD hb j
 exact or_i64 (Pl.num_nonneg (Pl.isB_drop hb _)) (num_lt5 hb j hn) hz.1 hz.2
theorem snumber_any (b off n cap:Nat) (zs:List Int) (w:World) (hn:n<=6) (hz:zs.length=n) (hb:Pl.isB zs)
  (hc:∀t,t<n->w.cell? ⟨b,off+t,none⟩=some (.int .u8 (zs.getD t 0))) :
  Calls Tryz.prog 185 #[.slice (some ⟨b,off,none⟩) n cap] w fun e w'=>e=.returned (.int .i64 (Pl.num zs))/\w'=w:=by
 go_enter Tryz.func185,Tryz.ntmps185
 go_wp2
 go_loop [3,4] (fun s i=>∃k:Nat,k<=n/\i=.int .i64 ((k:Int)-1)/\s=.int .i64 (Pl.num (zs.drop k))) (fun _ i=>(intOf i+1).toNat)
 case atStart=>exact⟨n,Nat.le_refl _,rfl,by rw[List.drop_of_length_le (by omega)];rfl⟩
 case round=>
  obtain⟨k,hk,rfl,rfl⟩:=hrel
  by_cases h0:k=0
  ·subst h0
   go_wp2
   go_ret
   exact⟨by simp,rfl⟩
  ·obtain⟨j,rfl⟩:∃j,k=j+1:=⟨k-1,by omega⟩
   have hcj:=hc j (by omega)
   have hz0:=Pl.isB_getD hb j
   have hn0:=Pl.num_nonneg (Pl.isB_drop hb (j+1))
   have hn1:=num_lt5 hb j (by omega)
   have hst:=snumber_step hb (j:=j) (by omega) (by omega)
   go_wp2
   go_round
   case rel=>exact⟨j,by omega,rfl,by rw[<- hst]⟩
   case measure=>simp[intOf]
theorem sentry_any(i:Nat)(hi:i<=1000)(w:World):Calls Tryz.prog 186 #[.int .i64 (i:Int)] w fun e w'=>e=.returned (.int .i64 ((32+8 * i:Nat):Int))/\w'=w:=by
 rw[show (((32+8 * i:Nat)):Int)=32+(i:Int) * 8 by omega]
 go_enter Tryz.func186,Tryz.ntmps186
 go_wp2
 go_ret
 exact⟨rfl,rfl⟩
theorem groupOf_any(b:Nat)(hb:1<=b)(h2:b<=262144)(w:World):Calls Tryz.prog 89 #[.int .i64 (b:Int)] w fun e w'=>e=.returned (.int .i64 (((b-1) / 480:Nat):Int))/\w'=w:=by
 have e1:((b:Int)-1) / 480=(((b-1) / 480:Nat):Int):=by omega
 rw[<- e1]
 clear e1
 go_enter Tryz.func89,Tryz.ntmps89
 go_wp2
 go_ret
 exact⟨rfl,rfl⟩
theorem slotOf_any(b:Nat)(hb:1<=b)(h2:b<=262144)(w:World):Calls Tryz.prog 90 #[.int .i64 (b:Int)] w fun e w'=>e=.returned (.int .i64 (((b-1) % 480:Nat):Int))/\w'=w:=by
 have e1:((b:Int)-1) % 480=(((b-1) % 480:Nat):Int):=by omega
 rw[<- e1]
 clear e1
 go_enter Tryz.func90,Tryz.ntmps90
 go_wp2
 go_ret
 exact⟨rfl,rfl⟩
theorem blockOf_any(g s:Nat)(hg:g<=1000)(hs:s<=1000)(w:World):Calls Tryz.prog 188 #[.int .i64 (g:Int),.int .i64 (s:Int)] w fun e w'=>e=.returned (.int .i64 ((480 * g+s+1:Nat):Int))/\w'=w:=by
 rw[show (((480 * g+s+1:Nat)):Int)=(g:Int) * 480+(s:Int)+1 by omega]
 go_enter Tryz.func188,Tryz.ntmps188
 go_wp2
 go_ret
 exact⟨rfl,rfl⟩
theorem isTaken_any(c:Int)(w:World):Calls Tryz.prog 99 #[.int .i64 c] w fun e w'=>e=.returned (.int .i64 (min c 1))/\w'=w:=by
 go_enter Tryz.func99,Tryz.ntmps99
 go_wp2
 go_ret
 exact⟨rfl,rfl⟩
theorem lifeBehind_any(l:Nat)(hl:l<=1099511627775)(w:World):Calls Tryz.prog 189 #[.int .i64 (l:Int)] w fun e w'=>e=.returned (.int .i64 ((l % 1099511627775+1:Nat):Int))/\w'=w:=by
 have e1:(l:Int).tmod 1099511627775=((l % 1099511627775:Nat):Int):=by rw[Int.tmod_eq_emod_of_nonneg (by omega)];omega
 have e2:((l % 1099511627775:Nat):Int)<1099511627775:=by omega
 generalize (l % 1099511627775:Nat)=m at *
 rw[show (((m+1:Nat)):Int)=(m:Int)+1 by omega]
 go_enter Tryz.func189,Tryz.ntmps189
 go_wp2
 go_ret
 exact⟨rfl,rfl⟩
theorem countsPage_any(f:Int)(r k:Nat)(hr:r<=262144)(hk:k<=1000)(w:World):Calls Tryz.prog 88 #[.agg #[.int .i64 f,.int .i64 (r:Int)],.int .i64 (k:Int)] w fun e w'=>e=.returned (.int .i64 ((indexN r+k:Nat):Int))/\Below w.heap.size w w':=by
 have hi:=indexN_le hr
 have HI:=hid (fun w=>index_any f r hr w)
 generalize indexN r=iN at *
 obtain⟨w0,hw0⟩:∃w0,w0=w.alloc (.cells #[.int .i64 f,.int .i64 (r:Int)] 92):=⟨_,rfl⟩
 have b0:Below w.heap.size w w0:=by rw[hw0];exact (Below.refl _ _).alloc (Nat.le_refl _) _
 have B0:=hid b0
 have HW:=hid hw0
 clear b0 hw0
 rw[show (((iN+k:Nat)):Int)=(iN:Int)+(k:Int) by omega]
 go_enter Tryz.func88,Tryz.ntmps88
 go_wp2_with fail
 rw[<- HW.out]
 refine Calls.mono (HI.out w0) ?_
 rintro e w1 ⟨rfl,b1⟩
 have B1:Hid (Below w.heap.size w w1):=B0.out.trans (b1.mono B0.out.size)
 clear b1 HI HW B0
 go_wp2
 go_ret
 exact⟨rfl,B1.out⟩
theorem shas_any(x t:Nat)(sz lf b:Int)(w:World):Calls Tryz.prog 86 #[.agg #[.pointer (some ⟨x,0,none⟩),.int .i64 sz,.int .i64 lf,.pointer (some ⟨t,0,none⟩)],.int .i64 b] w fun e w'=>e=.returned (.bool (decide (1<=b/\b<=sz)))/\Below w.heap.size w w':=by
 have B:Hid (Below w.heap.size w (w.alloc (.cells #[.pointer (some ⟨x,0,none⟩),.int .i64 sz,.int .i64 lf,.pointer (some ⟨t,0,none⟩)] 103))):=(Below.refl _ _).alloc (Nat.le_refl _) _
 by_cases h1:1<=b
 ·have e1:decide (1<=b/\b<=sz)=decide (b<=sz):=decide_eq_decide.2 ⟨fun q=>q.2,fun q=>⟨h1,q⟩⟩
  rw[e1]
  clear e1
  go_enter Tryz.func86,Tryz.ntmps86
  go_wp2
  go_ret
  exact⟨rfl,B.out⟩
 ·have e1:decide (1<=b/\b<=sz)=false:=decide_eq_false (fun q=>h1 q.1)
  rw[e1]
  clear e1
  go_enter Tryz.func86,Tryz.ntmps86
  go_wp2
  go_ret
  exact⟨rfl,B.out⟩
open Go.RowKit
def tknZ (zs:List Int) (i:Nat):Int:=Pl.num ((zs.drop (32+8 * i)).take 2)
def trnZ (zs:List Int) (i:Nat):Int:=Pl.num ((zs.drop (34+8 * i)).take 6)
theorem takenAt_any{G cap:Nat}(hO:Own w G 512 cap zs)(hb:Pl.isB zs)(i:Nat)(hi:i<=59) :
  Calls Tryz.prog 147 #[.slice (some ⟨G,0,none⟩) 512 cap,.int .i64 (i:Int)] w fun e w'=>e=.returned (.int .i64 (tknZ zs i))/\w'=w:=by
 have hcap:=own_cap hO
 have hlen:=hO.len
 obtain⟨o,ho⟩:∃o,o=32+8 * i:=⟨_,rfl⟩
 have HN:Hid (Calls Tryz.prog 185 #[.slice (some ⟨G,o+0,none⟩) 2 (cap-(o+0))] w fun e w'=>e=.returned (.int .i64 (tknZ zs i))/\w'=w):=by
  unfold tknZ
  rw[show 32+8 * i=o+0 by omega]
  refine snumber_any G (o+0) 2 _ ((zs.drop (o+0)).take 2) w (by omega) (by rw[List.length_take,List.length_drop];omega) (fun z hz=>hb z (List.mem_of_mem_drop (List.mem_of_mem_take hz))) (fun t ht=>?_)
  rw[hO.cell (o+0+t) (by omega)]
  congr 2
  simp only[List.getD_eq_getElem?_getD]
  rw[List.getElem?_take_of_lt ht,List.getElem?_drop]
 have HE:Hid (∀w:World,Calls Tryz.prog 186 #[.int .i64 (i:Int)] w fun e w'=>e=.returned (.int .i64 (o:Int))/\w'=w):=fun w=>by rw[ho];exact sentry_any i (by omega) w
 have h1:(o:Int)<=504:=by omega
 have h2:(512:Int)<=(cap:Int):=by omega
 have h3:¬cap=o+0:=by omega
 have h4:o<=504:=by omega
 clear hO hb hlen ho hi
 go_enter Tryz.func147,Tryz.ntmps147
 go_wp2_with fail
 refine Calls.mono (HE.out w) ?_
 rintro e w9 ⟨rfl,hw9⟩
 rw[hw9]
 clear hw9 HE
 go_wp2_with fail
 refine Calls.mono HN.out ?_
 rintro e w9 ⟨rfl,hw9⟩
 rw[hw9]
 clear hw9 HN
 go_wp2
 go_ret
 exact⟨rfl,rfl⟩
theorem turnsAt_any{G cap:Nat}(hO:Own w G 512 cap zs)(hb:Pl.isB zs)(i:Nat)(hi:i<=59) :
  Calls Tryz.prog 148 #[.slice (some ⟨G,0,none⟩) 512 cap,.int .i64 (i:Int)] w fun e w'=>e=.returned (.int .i64 (trnZ zs i))/\w'=w:=by
 have hcap:=own_cap hO
 have hlen:=hO.len
 obtain⟨o,ho⟩:∃o,o=32+8 * i:=⟨_,rfl⟩
 have HN:Hid (Calls Tryz.prog 185 #[.slice (some ⟨G,o+2,none⟩) 6 (cap-(o+2))] w fun e w'=>e=.returned (.int .i64 (trnZ zs i))/\w'=w):=by
  unfold trnZ
  rw[show 34+8 * i=o+2 by omega]
  refine snumber_any G (o+2) 6 _ ((zs.drop (o+2)).take 6) w (by omega) (by rw[List.length_take,List.length_drop];omega) (fun z hz=>hb z (List.mem_of_mem_drop (List.mem_of_mem_take hz))) (fun t ht=>?_)
  rw[hO.cell (o+2+t) (by omega)]
  congr 2
  simp only[List.getD_eq_getElem?_getD]
  rw[List.getElem?_take_of_lt ht,List.getElem?_drop]
 have HE:Hid (∀w:World,Calls Tryz.prog 186 #[.int .i64 (i:Int)] w fun e w'=>e=.returned (.int .i64 (o:Int))/\w'=w):=fun w=>by rw[ho];exact sentry_any i (by omega) w
 have h1:(o:Int)<=504:=by omega
 have h2:(512:Int)<=(cap:Int):=by omega
 have h3:¬cap=o+2:=by omega
 have h4:o<=504:=by omega
 clear hO hb hlen ho hi
 go_enter Tryz.func148,Tryz.ntmps148
 go_wp2_with fail
 refine Calls.mono (HE.out w) ?_
 rintro e w9 ⟨rfl,hw9⟩
 rw[hw9]
 clear hw9 HE
 go_wp2_with fail
 refine Calls.mono HN.out ?_
 rintro e w9 ⟨rfl,hw9⟩
 rw[hw9]
 clear hw9 HN
 go_wp2
 go_ret
 exact⟨rfl,rfl⟩
theorem okF_ent(h1:tk<=65535)(h2:tr<=281474976710655):okF [(2,(tk:Int)),(6,(tr:Int))]:=by
 intro f hf
 simp at hf
 rcases hf with rfl | rfl
 ·unfold chk wfB;simp;omega
 ·unfold chk wfB;simp;omega
def entZ (tk tr:Nat):List Int:=packZ [(2,(tk:Int)),(6,(tr:Int))]
theorem length_entZ(tk tr:Nat):(entZ tk tr).length=8:=by simp[entZ,packZ,Pl.dig]
theorem isB_entZ(tk tr:Nat):Pl.isB (entZ tk tr):=isB_packZ _
theorem putEntry_any{G cap:Nat}(hO:Own w G 512 cap zs)(i tk tr:Nat)(hi:i<=59)(h1:tk<=65535)(h2:tr<=281474976710655) :
  Calls Tryz.prog 150 #[.slice (some ⟨G,0,none⟩) 512 cap,.int .i64 (i:Int),.int .i64 (tk:Int),.int .i64 (tr:Int)] w fun e w'=>e=.returned (.bool true)/\Own w' G 512 cap (splice zs (32+8 * i) (entZ tk tr))/\But (fun k=>k=G) w w':=by
 refine poz fun PO hPO=>?_
 have hcap:=own_cap hO
 have hGl:=hO.lt
 obtain⟨o,ho⟩:∃o,o=32+8 * i:=⟨_,rfl⟩
 obtain⟨w0,hw0⟩:∃w0,w0=w.alloc (.cells #[.int .i64 2,.int .i64 (tk:Int),.int .i64 6,.int .i64 (tr:Int)] 204):=⟨_,rfl⟩
 have z0:w0.heap.size=w.heap.size+1:=by rw[hw0];simp
 have b0:Below w.heap.size w w0:=by rw[hw0];exact (Below.refl _ _).alloc (Nat.le_refl _) _
 have HP:Hid (Calls Tryz.prog 181 #[.slice (some ⟨w.heap.size,0,none⟩) 2 2] w0 fun e w2=>∃g,e=.returned (.tuple #[.slice (some ⟨g,0,none⟩) 8 8,.int .i64 0])/\∃w3,(Builtin.copy_ #[65,65] 3 #[.slice (some ⟨G,o,none⟩) (512-o) (cap-o),.slice (some ⟨g,0,none⟩) 8 8]).run Tryz.prog w2=.ok (.int .i64 8) w3/\PO (.returned (.bool true)) w3):=by
  have hc:=fun i v h=>cell_new (w:=w) (vs:=#[.int .i64 2,.int .i64 (tk:Int),.int .i64 6,.int .i64 (tr:Int)]) (t:=204) rfl i v h
  refine Calls.mono (Pack_ok _ 2 2 [(2,(tk:Int)),(6,(tr:Int))] w0 (by omega) ⟨rfl,fun f hf=>?_,.inr ⟨w.heap.size,0,rfl,by omega,fun t ht=>?_⟩⟩ (okF_ent h1 h2)) ?_
  ·simp at hf
   rcases hf with rfl | rfl <;> (simp only;omega)
  ·rw[hw0]
   rcases t with _ | _ | t
   ·exact⟨hc 0 _ rfl,hc 1 _ rfl⟩
   ·exact⟨hc 2 _ rfl,hc 3 _ rfl⟩
   ·omega
  ·rintro e w2 ⟨g,rfl,hg,hB,b2⟩
   have hl:(packZ [(2,(tk:Int)),(6,(tr:Int))]).length=8:=length_entZ tk tr
   rw[hl]
   have b02:Below w.heap.size w w2:=b0.trans (b2.mono (by omega))
   have hO2:Own w2 G 512 cap zs:=hO.keep (b02.block G hGl)
   obtain⟨w3,hr,hO3,bt3⟩:=copy_own (ty:=3) (o:=o) (dLen:=512-o) (dCap:=cap-o) (ad:=⟨g,0,none⟩) (m:=8) (sCap:=8) (cs:=entZ tk tr) hO2 (length_entZ tk tr) (by omega) (by omega) (fun j u hu=>World.news_of_block (w:=w2) (B:=g) hB j u (by simpa [entZ] using hu))
   refine⟨g,rfl,w3,hr,?_⟩
   rw[hPO]
   refine⟨rfl,?_,(But.of_below b02).comp bt3 (fun _ _ q=>q)⟩
   rw[<- ho]
   exact hO3
 have HE:Hid (∀w:World,Calls Tryz.prog 186 #[.int .i64 (i:Int)] w fun e w'=>e=.returned (.int .i64 (o:Int))/\w'=w):=fun w=>by rw[ho];exact sentry_any i (by omega) w
 have g1:(o:Int)<=504:=by omega
 have g2:(512:Int)<=(cap:Int):=by omega
 have g3:¬cap=o:=by omega
 have g4:o<=504:=by omega
 have HW:=hid hw0
 clear hO ho hi hPO hw0 b0 z0 hGl h1 h2
 go_enter Tryz.func150,Tryz.ntmps150
 go_wp2_with fail
 rw[<- HW.out]
 refine Calls.mono HP.out ?_
 rintro e w2 ⟨g,rfl,w3,hcp,hF⟩
 have FIN:=hid hF
 clear hF HP HW
 go_wp2_with fail
 refine Calls.mono (HE.out w2) ?_
 rintro e w9 ⟨rfl,hw9⟩
 rw[hw9]
 clear hw9 HE
 go_wp2
 exact FIN.out
end Go.Proofs.YtlefjidbpjkhlaaGreat
