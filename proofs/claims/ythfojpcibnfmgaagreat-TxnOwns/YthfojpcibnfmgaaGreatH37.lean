import Derived.Test.YthfojpcibnfmgaaGreatH36
import Derived.Test.YthfojpcibnfmgaaGreatH12
set_option maxRecDepth 100000
set_option maxHeartbeats 16000000
namespace Go.Proofs.YthfojpcibnfmgaaGreat
variable {w w':World}
variable {da pa:Option Addr}
variable {bl dc dn fr i k nb pc:Nat}
variable {ov:Value}
variable {xs:List Value}
variable {X:Nat->Prop}
open Go.RowKit
theorem rcommit_large{g rb:Nat}{mv:Value}{ps:List Pu}(h:Rt5 w g rb (.slice pa ps.length pc) mv false){fv dv:Value}{sure:Int}(hs:Rs5 w rb nb fr bl fv dv sure ov false)(hP:PutsL w pa ps)(hpl:ps.length<=1073741823)(hpg:∀a,pa=some a->a.block≠g/\a.block≠rb)(hbl:16<=bl)(hbl2:bl<=524288)(hlg:bl / 2-4<cntU ps ps.length) :
  Calls Tryz.prog 81 #[.pointer (some ⟨g,0,none⟩)] w fun e w'=>e=.returned (.int .i64 44)/\Rt5 w' g rb (.slice pa ps.length pc) mv true/\Rs5 w' rb nb fr bl fv dv sure (.pointer none) false/\But (fun k=>k=rb\/k=g) w w':=by
 have HS:=hid (rstate_any h hs)
 have e0:stC false false=0:=rfl
 rw[e0]at HS
 have HE:=hid (rend_any hs h)
 have HB:Hid (∀w2,Rt5 w2 g rb (.slice pa ps.length pc) mv true->But (fun k=>k=rb\/k=g) w w2->Calls Tryz.prog 53 #[.pointer (some ⟨g,0,none⟩)] w2 fun e w'=>e=.returned (.int .i64 (cntU ps ps.length:Nat))/\Below w2.heap.size w2 w'):=fun w2 h2 b2=>rblocks_any h2 (hP.but b2 (fun x o n e q=>by
  obtain⟨n1,n2⟩:=hpg _ e
  rcases q with q | q
  ·exact n2 q
  ·exact n1 q)) hpl
 have hcl:=cntU_le ps ps.length
 have hq1:IntKind.i64.wrap ((bl:Int).tdiv 2)=((bl / 2:Nat):Int):=by
  have:(bl:Int).tdiv 2=((bl / 2:Nat):Int):=by rw[Int.tdiv_eq_ediv_of_nonneg (by omega)];omega
  rw[this,IntKind.wrap_i64]
  omega
 have hq2:(bl:Int).tdiv 2=((bl / 2:Nat):Int):=by rw[Int.tdiv_eq_ediv_of_nonneg (by omega)];omega
 clear e0 h hs hP
 obtain⟨cn,hcn⟩:∃cn,cn=cntU ps ps.length:=⟨_,rfl⟩
 rw[<- hcn]at HB hcl
 go_enter Tryz.func81,Tryz.ntmps81
 go_wp2_with fail
 refine Calls.mono HS.out ?_
 rintro e w9 ⟨rfl,hw9⟩
 rw[hw9]
 clear hw9 HS
 go_wp2_with fail
 refine Calls.mono HE.out ?_
 rintro e w2 ⟨rfl,h2,s2,b2⟩
 have HB2:=hid (HB.out w2 h2 b2)
 clear HB HE
 go_wp2_with fail
 refine Calls.mono HB2.out ?_
 rintro e w3 ⟨rfl,b3⟩
 have h3:=h2.keep (b3.block g h2.lt)
 have s3:=s2.keep (b3.block rb s2.lt)
 have b23:But (fun k=>k=rb\/k=g) w w3:=b2.trans (But.of_below b3)
 clear HB2 h2 s2 b2 b3
 have k0:=h3.cell 0
 have k1:=h3.cell 1
 have q2:=s3.cell 2
 have q4:=s3.cell 4
 simp at k0 k1 q2 q4
 have FIN:=hid (And.intro h3 (And.intro s3 b23))
 have hlt:((bl / 2:Nat):Int)-4<(cn:Int):=by omega
 clear h3 s3 b23 hlg hcn hq1
 go_wp2
 go_ret
 exact⟨rfl,FIN.out⟩
theorem rcommit_none{g rb:Nat}{mv:Value}{ps:List Pu}(h:Rt5 w g rb (.slice pa ps.length pc) mv false){fv:Value}{sure:Int}(hs:Rs5 w rb nb fr bl fv (.slice da dn dc) sure ov false)(hP:PutsL w pa ps)(hpl:ps.length<=1073741823)(hpg:∀a,pa=some a->a.block≠g/\a.block≠rb)(hbl:16<=bl)(hbl2:bl<=524288)(hz:cntU ps ps.length=0) :
  Calls Tryz.prog 81 #[.pointer (some ⟨g,0,none⟩)] w fun e w'=>e=.returned (.int .i64 0)/\Rt5 w' g rb (.slice pa ps.length pc) mv true/\Rs5 w' rb nb fr bl fv (.slice da dn dc) sure (.pointer none) false/\But (fun k=>k=rb\/k=g) w w':=by
 have HS:=hid (rstate_any h hs)
 have e0:stC false false=0:=rfl
 rw[e0]at HS
 have HE:=hid (rend_any hs h)
 have HB:Hid (∀w2,Rt5 w2 g rb (.slice pa ps.length pc) mv true->But (fun k=>k=rb\/k=g) w w2->Calls Tryz.prog 53 #[.pointer (some ⟨g,0,none⟩)] w2 fun e w'=>e=.returned (.int .i64 (cntU ps ps.length:Nat))/\Below w2.heap.size w2 w'):=fun w2 h2 b2=>rblocks_any h2 (hP.but b2 (fun x o n e q=>by
  obtain⟨n1,n2⟩:=hpg _ e
  rcases q with q | q
  ·exact n2 q
  ·exact n1 q)) hpl
 have hcl:=cntU_le ps ps.length
 have hq1:IntKind.i64.wrap ((bl:Int).tdiv 2)=((bl / 2:Nat):Int):=by
  have:(bl:Int).tdiv 2=((bl / 2:Nat):Int):=by rw[Int.tdiv_eq_ediv_of_nonneg (by omega)];omega
  rw[this,IntKind.wrap_i64]
  omega
 have hq2:(bl:Int).tdiv 2=((bl / 2:Nat):Int):=by rw[Int.tdiv_eq_ediv_of_nonneg (by omega)];omega
 clear e0 h hs hP
 obtain⟨cn,hcn⟩:∃cn,cn=cntU ps ps.length:=⟨_,rfl⟩
 rw[<- hcn]at HB hcl
 go_enter Tryz.func81,Tryz.ntmps81
 go_wp2_with fail
 refine Calls.mono HS.out ?_
 rintro e w9 ⟨rfl,hw9⟩
 rw[hw9]
 clear hw9 HS
 go_wp2_with fail
 refine Calls.mono HE.out ?_
 rintro e w2 ⟨rfl,h2,s2,b2⟩
 have HB2:=hid (HB.out w2 h2 b2)
 clear HB HE
 go_wp2_with fail
 refine Calls.mono HB2.out ?_
 rintro e w3 ⟨rfl,b3⟩
 have h3:=h2.keep (b3.block g h2.lt)
 have s3:=s2.keep (b3.block rb s2.lt)
 have b23:But (fun k=>k=rb\/k=g) w w3:=b2.trans (But.of_below b3)
 clear HB2 h2 s2 b2 b3
 have k0:=h3.cell 0
 have k1:=h3.cell 1
 have q2:=s3.cell 2
 have q4:=s3.cell 4
 simp at k0 k1 q2 q4
 have FIN:=hid (And.intro h3 (And.intro s3 b23))
 have hcz:cn=0:=hcn.trans hz
 subst hcz
 have hlt:¬((bl / 2:Nat):Int)-4<0:=by omega
 clear h3 s3 b23 hcn hq1 hz
 go_wp2
 go_ret
 exact⟨rfl,FIN.out⟩
theorem info60:(Tryz.prog.info? 60).map (fun i=>(i.zero,i.size,i.bytes))=some (some (.slice none 0 0),1,24):=by kernel_rfl
theorem rcommit_ok{g rb:Nat}{pg:Nat}{mv:Value}{ps:List Pu}(h:Rt5 w g rb (.slice (some ⟨pg,0,none⟩) ps.length pc) mv false){fv dv:Value}{sure:Int}(hs:Rs5 w rb nb fr bl fv dv sure ov false)(hpr:w.ownsRow 0 150 2 (.slice (some ⟨pg,0,none⟩) ps.length pc) ps.length (puCells ps))(hpl:ps.length<=1073741823)(hbl:16<=bl)(hbl2:bl<=524288)(hdr:w.ownsRow 0 60 1 dv dn xs)(hdn:dn<=1073741823)(hlg:cntU ps ps.length<=bl / 2-4)(hpos:0<cntU ps ps.length) :
  Calls Tryz.prog 81 #[.pointer (some ⟨g,0,none⟩)] w fun e w'=>e=.returned (.int .i64 0)/\∃ga ca g6 cap6,Rt5 w' g rb (.slice (some ⟨pg,0,none⟩) ps.length pc) mv true/\Rs5 w' rb nb fr bl fv (.slice (some ⟨g6,0,none⟩) (dn+1) cap6) sure (.pointer none) false/\w'.ownsRow 0 60 1 (.slice (some ⟨g6,0,none⟩) (dn+1) cap6) (dn+1) (xs++[.slice (some ⟨ga,0,none⟩) ps.length ca])/\w'.ownsRow 0 150 2 (.slice (some ⟨ga,0,none⟩) ps.length ca) ps.length (puCells ps)/\w.heap.size<=ga/\(dv.ownBlock=some g6\/w.heap.size<=g6)/\But (fun k=>k=rb\/k=g\/dv.ownBlock=some k) w w':=by
 obtain⟨PO,hPO⟩:∃PO:Ending->World->Prop,PO=fun e w'=>e=.returned (.int .i64 0)/\∃ga ca g6 cap6,Rt5 w' g rb (.slice (some ⟨pg,0,none⟩) ps.length pc) mv true/\Rs5 w' rb nb fr bl fv (.slice (some ⟨g6,0,none⟩) (dn+1) cap6) sure (.pointer none) false/\w'.ownsRow 0 60 1 (.slice (some ⟨g6,0,none⟩) (dn+1) cap6) (dn+1) (xs++[.slice (some ⟨ga,0,none⟩) ps.length ca])/\w'.ownsRow 0 150 2 (.slice (some ⟨ga,0,none⟩) ps.length ca) ps.length (puCells ps)/\w.heap.size<=ga/\(dv.ownBlock=some g6\/w.heap.size<=g6)/\But (fun k=>k=rb\/k=g\/dv.ownBlock=some k) w w':=⟨_,rfl⟩
 rw[<- hPO]
 obtain⟨pcur,hpcur⟩:=rowKind hpr rfl
 have hpgg:pg≠g:=kind_ne hpcur h (by decide)
 have hpgr:pg≠rb:=kind_ne hpcur hs (by decide)
 have hgr:g≠rb:=h.ne hs
 have hdg:∀k,dv.ownBlock=some k->k≠g/\k≠rb/\k≠pg:=fun k e=>by
  obtain⟨cur,hcur⟩:=rowKind hdr e
  exact⟨kind_ne hcur h (by decide),kind_ne hcur hs (by decide),kind_ne hcur hpcur (by decide)⟩
 obtain⟨pa9,pc9,e9,hP⟩:=PutsL.of_row hpr rfl
 obtain⟨rfl,rfl⟩:pa9=some ⟨pg,0,none⟩/\pc=pc9:=by injection e9 with e1 e2 e3;exact⟨e1.symm,e3⟩
 clear e9
 have hpg:∀a,(some ⟨pg,0,none⟩:Option Addr)=some a->a.block≠g/\a.block≠rb:=fun a e=>by
  injection e with e
  subst e
  exact⟨hpgg,hpgr⟩
 obtain⟨pa,hpa⟩:∃pa:Option Addr,pa=some ⟨pg,0,none⟩:=⟨_,rfl⟩
 rw[<- hpa]at h hP hpg
 have HS:=hid (rstate_any h hs)
 have e0:stC false false=0:=rfl
 rw[e0]at HS
 have HE:=hid (rend_any hs h)
 have HB:Hid (∀w2,Rt5 w2 g rb (.slice pa ps.length pc) mv true->But (fun k=>k=rb\/k=g) w w2->Calls Tryz.prog 53 #[.pointer (some ⟨g,0,none⟩)] w2 fun e w'=>e=.returned (.int .i64 (cntU ps ps.length:Nat))/\Below w2.heap.size w2 w'):=fun w2 h2 b2=>rblocks_any h2 (hP.but b2 (fun x o n e q=>by
  obtain⟨n1,n2⟩:=hpg _ e
  rcases q with q | q
  ·exact n2 q
  ·exact n1 q)) hpl
 have hcl:=cntU_le ps ps.length
 have hq1:IntKind.i64.wrap ((bl:Int).tdiv 2)=((bl / 2:Nat):Int):=by
  have:(bl:Int).tdiv 2=((bl / 2:Nat):Int):=by rw[Int.tdiv_eq_ediv_of_nonneg (by omega)];omega
  rw[this,IntKind.wrap_i64]
  omega
 have hq2:(bl:Int).tdiv 2=((bl / 2:Nat):Int):=by rw[Int.tdiv_eq_ediv_of_nonneg (by omega)];omega
 have HROW:Hid (∀w3,But (fun k=>k=rb\/k=g) w w3->w3.ownsRow 0 150 2 (.slice (some ⟨pg,0,none⟩) ps.length pc) ps.length (puCells ps)/\w3.ownsRow 0 60 1 dv dn xs):=fun w3 b=>by
  refine⟨owns_keep hpr (fun k e=>?_),owns_keep hdr (fun k e=>?_)⟩
  ·have:pg=k:=by simpa [Value.ownBlock] using e
   subst this
   exact b.block pg (World.ownsRow.lt hpr pg rfl).2 (fun q=>q.elim hpgr hpgg)
  ·obtain⟨n1,n2,_⟩:=hdg k e
   exact b.block k (World.ownsRow.lt hdr k e).2 (fun q=>q.elim n2 n1)
 obtain⟨da,dc,hdv,_⟩:=owns_slice hdr
 clear e0 h hs hP
 obtain⟨cn,hcn⟩:∃cn,cn=cntU ps ps.length:=⟨_,rfl⟩
 rw[<- hcn]at HB hcl
 go_enter Tryz.func81,Tryz.ntmps81
 go_wp2_with fail
 refine Calls.mono HS.out ?_
 rintro e w9 ⟨rfl,hw9⟩
 rw[hw9]
 clear hw9 HS
 go_wp2_with fail
 refine Calls.mono HE.out ?_
 rintro e w2 ⟨rfl,h2,s2,b2⟩
 have HB2:=hid (HB.out w2 h2 b2)
 clear HB HE
 go_wp2_with fail
 refine Calls.mono HB2.out ?_
 rintro e w3 ⟨rfl,b3⟩
 have h3:=h2.keep (b3.block g h2.lt)
 have s3:=s2.keep (b3.block rb s2.lt)
 have b23:But (fun k=>k=rb\/k=g) w w3:=b2.trans (But.of_below b3)
 clear HB2 h2 s2 b2 b3
 have k0:=h3.cell 0
 have k1:=h3.cell 1
 have q2:=s3.cell 2
 have q4:=s3.cell 4
 simp at k0 k1 q2 q4
 rw[hpa]at h3 k1
 obtain⟨hpr3,hdr3⟩:=HROW.out w3 b23
 obtain⟨np,hnp⟩:∃np,np=ps.length:=⟨_,rfl⟩
 have hppos:0<np:=by omega
 rw[<- hnp]at hpl hcl hpr3 k1 h3 hPO
 have hlt:¬((bl / 2:Nat):Int)-4<(cn:Int):=by omega
 have hgt:(0:Int)<(cn:Int):=by omega
 have hdl:decide ((1099511627776:Int)<=(dn:Int))=false:=decide_eq_false (by omega)
 have hdl2:((1099511627776:Int)<=(dn:Int))=False:=eq_false (by omega)
 obtain⟨i5,hi5,hz5,hs5,hb5⟩:=info_parts info150
 obtain⟨i6,hi6,hz6,hs6,hb6⟩:=info_parts info60
 have hxl:=h3.lt
 have hrl:=s3.lt
 have HSRC:Hid (∀j u,(puCells ps)[j]?=some u->w3.drew.cell? ((⟨pg,0,none⟩:Addr).add j)=some u):=fun j u hu=>World.ownsRow.cells hpr3 rfl j u hu
 have HONE:Hid (∀u∈puCells ps,u.oneCell'=true):=fun u hu=>by
  obtain⟨q,_,hq⟩:=List.mem_flatMap.1 hu
  simp at hq
  rcases hq with rfl | rfl <;> rfl
 have HLEN:Hid ((puCells ps).length=np * 2):=by
  show (puCells ps).length=np * 2
  rw[hnp]
  exact puCells_length ps
 have HN:Hid (∀w5 g4 cap4,w5.ownsRow 0 150 2 (.slice (some ⟨g4,0,none⟩) np cap4) np (puCells ps)->w3.drew.grownBy w5 none->g4=w3.heap.size->(w5.cell? ⟨g,0,none⟩=some (.pointer (some ⟨rb,0,none⟩))/\w5.cell? ⟨g,1,none⟩=some (.slice (some ⟨pg,0,none⟩) np pc))/\w5.cell? ⟨rb,4,none⟩=some dv/\((w5.alloc (.cells #[.slice (some ⟨g4,0,none⟩) np cap4] 60)).cell? ⟨g,0,none⟩=some (.pointer (some ⟨rb,0,none⟩))/\(w5.alloc (.cells #[.slice (some ⟨g4,0,none⟩) np cap4] 60)).cell? ⟨g,1,none⟩=some (.slice (some ⟨pg,0,none⟩) np pc))/\(w5.alloc (.cells #[.slice (some ⟨g4,0,none⟩) np cap4] 60)).cell? ⟨rb,4,none⟩=some dv/\(w5.alloc (.cells #[.slice (some ⟨g4,0,none⟩) np cap4] 60)).ownsRow 0 60 1 dv dn xs/\∀w6 g6 cap6,w6.ownsRow 0 60 1 (.slice (some ⟨g6,0,none⟩) (dn+1) cap6) (dn+1) (xs++[.slice (some ⟨g4,0,none⟩) np cap4])->(w5.alloc (.cells #[.slice (some ⟨g4,0,none⟩) np cap4] 60)).grownBy w6 dv.ownBlock->(dv.ownBlock=some g6\/g6=w5.heap.size+1)->(w6.cell? ⟨g,0,none⟩=some (.pointer (some ⟨rb,0,none⟩))/\w6.cell? ⟨g,1,none⟩=some (.slice (some ⟨pg,0,none⟩) np pc))/\w6.cell? ⟨rb,4,none⟩=some dv/\w6.frozen? ⟨rb,4,none⟩=false/\((w6.setCell ⟨rb,4,none⟩ (.slice (some ⟨g6,0,none⟩) (dn+1) cap6)).cell? ⟨g,0,none⟩=some (.pointer (some ⟨rb,0,none⟩))/\(w6.setCell ⟨rb,4,none⟩ (.slice (some ⟨g6,0,none⟩) (dn+1) cap6)).cell? ⟨g,1,none⟩=some (.slice (some ⟨pg,0,none⟩) np pc))/\PO (.returned (.int .i64 0)) (w6.setCell ⟨rb,4,none⟩ (.slice (some ⟨g6,0,none⟩) (dn+1) cap6))):=fun w5 g4 cap4 ho5 hg5 hg4=>by
  have b5:Below w3.heap.size w3 w5:=(Below.refl w3.heap.size w3).drew.grown hg5 (Nat.le_refl _) (fun k e=>by cases e)
  have z5:=b5.size
  have h5:=h3.keep (b5.block g hxl)
  have s5:=s3.keep (b5.block rb hrl)
  have bA:Below w5.heap.size w5 (w5.alloc (.cells #[.slice (some ⟨g4,0,none⟩) np cap4] 60)):=(Below.refl _ _).alloc (Nat.le_refl _) _
  have hA:=h5.keep (bA.block g h5.lt)
  have sA:=s5.keep (bA.block rb s5.lt)
  have m0:=h5.cell 0
  have m1:=h5.cell 1
  have m4:=s5.cell 4
  have a0:=hA.cell 0
  have a1:=hA.cell 1
  have a4:=sA.cell 4
  simp at m0 m1 m4 a0 a1 a4
  have hdrA:=owns_below (owns_below hdr3 b5) bA
  refine⟨⟨m0,m1⟩,m4,⟨a0,a1⟩,a4,hdrA,fun w6 g6 cap6 ho6 hg6 hl6=>?_⟩
  have zA:(w5.alloc (.cells #[.slice (some ⟨g4,0,none⟩) np cap4] 60)).heap.size=w5.heap.size+1:=by simp
  have bg:But (fun k=>dv.ownBlock=some k) (w5.alloc (.cells #[.slice (some ⟨g4,0,none⟩) np cap4] 60)) w6:=(But.refl _ _).of_grown hg6 (fun k e _=>e)
  have h6:=hA.keep (bg.block g hA.lt (fun e=>(hdg g e).1 rfl))
  have s6:=sA.keep (bg.block rb sA.lt (fun e=>(hdg rb e).2.1 rfl))
  have c0:=h6.cell 0
  have c1:=h6.cell 1
  have c4:=s6.cell 4
  simp at c0 c1 c4
  have s7:=s6.set4 (.slice (some ⟨g6,0,none⟩) (dn+1) cap6)
  have bs:But (fun k=>k=rb) w6 (w6.setCell ⟨rb,4,none⟩ (.slice (some ⟨g6,0,none⟩) (dn+1) cap6)):=(But.refl (fun k=>k=rb) w6).setCell (p:=⟨rb,4,none⟩) rfl _
  have h7:=h6.keep (bs.block g h6.lt hgr)
  have d0:=h7.cell 0
  have d1:=h7.cell 1
  simp at d0 d1
  have hg46:g4<w5.heap.size:=(World.ownsRow.lt ho5 g4 rfl).2
  have hg4d:¬dv.ownBlock=some g4:=fun e=>by
   have:=(World.ownsRow.lt hdr3 g4 e).2
   omega
  have e6:w6.heap[g4]?=w5.heap[g4]?:=(bg.block g4 (by omega) hg4d).trans (bA.block g4 hg46)
  have hg6n:g6≠rb:=by
   rcases hl6 with e | e
   ·exact (hdg g6 e).2.1
   ·have:=s5.lt
    omega
  refine⟨⟨c0,c1⟩,c4,s6.frozen 4,⟨d0,d1⟩,?_⟩
  rw[hPO]
  have z23:=b23.size
  refine⟨rfl,g4,cap4,g6,cap6,h7,s7,owns_keep ho6 (fun k e=>?_),owns_keep ho5 (fun k e=>?_),by omega,hl6.imp id (fun e=>by omega),?_⟩
  ·have:g6=k:=by simpa [Value.ownBlock] using e
   subst this
   exact bs.block g6 (World.ownsRow.lt ho6 g6 rfl).2 hg6n
  ·have:g4=k:=by simpa [Value.ownBlock] using e
   subst this
   exact (bs.block g4 (by have:=bg.size;omega) (by have:=s3.lt;omega)).trans e6
  ·have x1:But (fun k=>k=rb\/k=g\/dv.ownBlock=some k) w w5:=(b23.mono (fun k _ q=>q.elim .inl (fun r=>.inr (.inl r)))).trans (But.of_below b5)
   exact ((x1.trans (But.of_below bA)).trans (bg.mono (fun k _ q=>.inr (.inr q)))).trans (bs.mono (fun k _ q=>.inl q))
 have HF0:=HN
 have hdv':=hdv
 rw[hdv]at q4
 have q4d:w3.drew.cell? ⟨rb,4,none⟩=some (.slice da dn dc):=q4
 have HDV:=hid hdv'
 clear hnp hpa hdv hdv' HF0 h3 s3 b23 hpr3 hdr3 hPO HROW hdg hpg hpgg hpgr hgr hpcur hlg hpos hcn hq1 hdr hpr hs5 hs6
 obtain⟨i5,hi5,hz5,hs5,hb5⟩:=info_parts info150
 obtain⟨i6,hi6,hz6,hs6,hb6⟩:=info_parts info60
 go_upto_region 11 with fail
 go_cut [2] (fun s2 wx=>s2=.int .i64 0/\PO (.returned (.int .i64 0)) wx)
 case first=>
  refine wp_region_noPanic ?_
  refine wp_region_held_drew (S:=fun w'=>w'.cell? ⟨g,0,none⟩=some (.pointer (some ⟨rb,0,none⟩))/\w'.cell? ⟨g,1,none⟩=some (.slice (some ⟨pg,0,none⟩) np pc)) (by kernel_rfl) ⟨k0,k1⟩ (fun hSS=>?_)
  refine tk 0 (some 40) (.move (.tmp 0)) 65 none hSS ?_
  refine tk 1 (some 41) (.nilCheck (.tmp 40)) 0 none hSS ?_
  refine tk 2 (some 42) (.fieldAddr 115 (.tmp 41) 0) 0 none hSS ?_
  refine tk 3 (some 43) (.load 52 (.tmp 42)) 52 none hSS ?_
  try simp only[Act.put,zA,zB,zC]
  refine tk 4 (some 44) (.move (.tmp 0)) 65 none hSS ?_
  refine tk 5 (some 45) (.nilCheck (.tmp 44)) 0 none hSS ?_
  refine tk 6 (some 46) (.fieldAddr 115 (.tmp 45) 0) 0 none hSS ?_
  refine tk 7 (some 47) (.load 52 (.tmp 46)) 52 none hSS ?_
  try simp only[Act.put,zA,zB,zC]
  refine tk 8 (some 48) (.nilCheck (.tmp 47)) 0 none hSS ?_
  refine tk 9 (some 49) (.fieldAddr 67 (.tmp 48) 4) 0 none hSS ?_
  refine tk 11 (some 51) (.move (.tmp 0)) 65 none hSS ?_
  refine tk 12 (some 52) (.nilCheck (.tmp 51)) 0 none hSS ?_
  try simp only[Act.put,zA,zB,zC]
  refine tk 13 (some 53) (.fieldAddr 115 (.tmp 52) 1) 0 none hSS ?_
  refine tk 14 (some 54) (.load 60 (.tmp 53)) 60 none hSS ?_
  try simp only[Act.put,zA,zB,zC]
  refine wpAnyH_ready (rs:=[10,15]) (by kernel_rfl) (by simp) (AllReadyH.cons (o:=({ dst:=some 50,op:=Op.load 63 (Operand.tmp 49),type:=63,pos:=_,after:=_,guard:=none }:Oper)) rfl (fun K9 hK9=>?_) (AllReadyH.cons (o:=({ dst:=some 55,op:=Op.call { callee:=Callee.builtin Builtin.append,args:=#[Operand.const (Value.slice none 0 0),Operand.tmp 54],argTypes:=#[60,60] },type:=60,pos:=_,after:=_,guard:=none }:Oper)) rfl (fun K9 hK9=>?_) AllReadyH.nil))
  ·go_simp
   refine hK9.out _ _ hSS (fun hSS=>?_)
   clear hK9 K9
   try simp only[Act.put,zA,zB,zC]
   refine wpAnyH_ready (rs:=[15]) (by kernel_rfl) (by simp) (AllReadyH.cons (o:=({ dst:=some 55,op:=Op.call { callee:=Callee.builtin Builtin.append,args:=#[Operand.const (Value.slice none 0 0),Operand.tmp 54],argTypes:=#[60,60] },type:=60,pos:=_,after:=_,guard:=none }:Oper)) rfl (fun K9 hK9=>?_) AllReadyH.nil)
   refine step_append_lies _ (by rfl) _ _ _ (by rfl) 0 150 i5 (.agg #[.int .i64 0,.string ByteArray.empty]) 2 24 Tryz.underlying60 hi5 hz5 hs5 hb5 rfl (by decide) _ 0 [] (by rfl) (World.ownsRow_nil _ _ _ _) ⟨pg,0,none⟩ np pc (puCells ps) (by rfl) HLEN.out HSRC.out HONE.out hppos (by unfold maxLen;omega) (by omega) (by simp) w3.heap.size (by simp) ?_
   intro g4 cap4 w5 ho5 hg5 hlie5 _
   rw[Nat.zero_add]at ho5 ⊢
   have hg4:g4=w3.heap.size:=hlie5.elim (fun e=>by cases e) id
   obtain⟨y5,y5d,yA,yAd,yR,hF⟩:=HN.out w5 g4 cap4 ho5 hg5 hg4
   rw[HDV.out]at y5d yAd
   have HF:=hid hF
   have HYR:=hid yR
   clear ho5 hg5 hlie5 hF HN hg4 yR
   dsimp [Act.put]
   refine hK9.out _ _ y5 (fun hSS=>?_)
   clear hK9 K9
   try simp only[List.setIfInBounds_toArray,List.set_cons_zero,List.set_cons_succ]
   refine wpAnyH_ready (rs:=[16]) (by kernel_rfl) (by simp) (AllReadyH.cons (o:=({ dst:=some 56,op:=Op.buildSlice 63 1 #[(0,Operand.tmp 55)],type:=63,pos:=_,after:=_,guard:=none }:Oper)) rfl (fun K9 hK9=>?_) AllReadyH.nil)
   go_simp
   refine hK9.out _ _ yA (fun hSS=>?_)
   clear hK9 K9
   try simp only[Act.put,zA,zB,zC]
   refine wpAnyH_ready (rs:=[17]) (by kernel_rfl) (by simp) (AllReadyH.cons (o:=({ dst:=some 57,op:=Op.call { callee:=Callee.builtin Builtin.append,args:=#[Operand.tmp 50,Operand.tmp 56],argTypes:=#[63,63] },type:=63,pos:=_,after:=_,guard:=none }:Oper)) rfl (fun K9 hK9=>?_) AllReadyH.nil)
   refine step_append_lies _ (by rfl) _ _ _ (by rfl) 0 60 i6 (.slice none 0 0) 1 24 Tryz.underlying63 hi6 hz6 hs6 hb6 rfl (by decide) _ dn _ (by rfl) (by rw[<- HDV.out];exact HYR.out) ⟨w5.heap.size,0,none⟩ 1 1 [.slice (some ⟨g4,0,none⟩) np cap4] (by rfl) (by rfl) (by exact news1R w5 _ _) (by intro u hu;simp at hu;subst hu;rfl) (by decide) (by unfold maxLen;omega) (by omega) (by simp) (w5.heap.size+1) (by simp) ?_
   intro g6 cap6 w6 ho6 hg6 hlie6 _
   rw[<- HDV.out]at hg6 hlie6
   obtain⟨z0,z4,zf,zS,hFF⟩:=HF.out w6 g6 cap6 ho6 hg6 hlie6
   rw[HDV.out]at z4
   have HFF:=hid hFF
   clear ho6 hg6 hlie6 hFF HF
   dsimp [Act.put]
   refine hK9.out _ _ z0 (fun hSS=>?_)
   clear hK9 K9
   try simp only[List.setIfInBounds_toArray,List.set_cons_zero,List.set_cons_succ]
   refine tk 18 (some 58) (.nilCheck (.tmp 43)) 0 none hSS ?_
   refine tk 19 (some 59) (.fieldAddr 67 (.tmp 58) 4) 0 none hSS ?_
   try simp only[Act.put,zA,zB,zC]
   refine wpAnyH_ready (rs:=[20]) (by kernel_rfl) (by simp) (AllReadyH.cons (o:=({ dst:=none,op:=Op.store 63 (Operand.tmp 59) (Operand.tmp 57),type:=0,pos:=_,after:=_,guard:=none }:Oper)) rfl (fun K9 hK9=>?_) AllReadyH.nil)
   go_simp
   refine hK9.out _ _ zS (fun hSS=>?_)
   clear hK9 K9
   try simp only[Act.put,zA,zB,zC]
   refine wpAnyH_done (by kernel_rfl) (NoPanic.normal ?_) _
   clear hSS
   go_wp2_with fail
   go_meet
   exact⟨rfl,HFF.out⟩
  ·refine step_append_lies _ (by rfl) _ _ _ (by rfl) 0 150 i5 (.agg #[.int .i64 0,.string ByteArray.empty]) 2 24 Tryz.underlying60 hi5 hz5 hs5 hb5 rfl (by decide) _ 0 [] (by rfl) (World.ownsRow_nil _ _ _ _) ⟨pg,0,none⟩ np pc (puCells ps) (by rfl) HLEN.out HSRC.out HONE.out hppos (by unfold maxLen;omega) (by omega) (by simp) w3.heap.size (by simp) ?_
   intro g4 cap4 w5 ho5 hg5 hlie5 _
   rw[Nat.zero_add]at ho5 ⊢
   have hg4:g4=w3.heap.size:=hlie5.elim (fun e=>by cases e) id
   obtain⟨y5,y5d,yA,yAd,yR,hF⟩:=HN.out w5 g4 cap4 ho5 hg5 hg4
   rw[HDV.out]at y5d yAd
   have HF:=hid hF
   have HYR:=hid yR
   clear ho5 hg5 hlie5 hF HN hg4 yR
   dsimp [Act.put]
   refine hK9.out _ _ y5 (fun hSS=>?_)
   clear hK9 K9
   try simp only[List.setIfInBounds_toArray,List.set_cons_zero,List.set_cons_succ]
   refine wpAnyH_ready (rs:=[10,16]) (by kernel_rfl) (by simp) (AllReadyH.cons (o:=({ dst:=some 50,op:=Op.load 63 (Operand.tmp 49),type:=63,pos:=_,after:=_,guard:=none }:Oper)) rfl (fun K9 hK9=>?_) (AllReadyH.cons (o:=({ dst:=some 56,op:=Op.buildSlice 63 1 #[(0,Operand.tmp 55)],type:=63,pos:=_,after:=_,guard:=none }:Oper)) rfl (fun K9 hK9=>?_) AllReadyH.nil))
   ·go_simp
    refine hK9.out _ _ hSS (fun hSS=>?_)
    clear hK9 K9
    try simp only[Act.put,zA,zB,zC]
    refine wpAnyH_ready (rs:=[16]) (by kernel_rfl) (by simp) (AllReadyH.cons (o:=({ dst:=some 56,op:=Op.buildSlice 63 1 #[(0,Operand.tmp 55)],type:=63,pos:=_,after:=_,guard:=none }:Oper)) rfl (fun K9 hK9=>?_) AllReadyH.nil)
    go_simp
    refine hK9.out _ _ yA (fun hSS=>?_)
    clear hK9 K9
    try simp only[Act.put,zA,zB,zC]
    refine wpAnyH_ready (rs:=[17]) (by kernel_rfl) (by simp) (AllReadyH.cons (o:=({ dst:=some 57,op:=Op.call { callee:=Callee.builtin Builtin.append,args:=#[Operand.tmp 50,Operand.tmp 56],argTypes:=#[63,63] },type:=63,pos:=_,after:=_,guard:=none }:Oper)) rfl (fun K9 hK9=>?_) AllReadyH.nil)
    refine step_append_lies _ (by rfl) _ _ _ (by rfl) 0 60 i6 (.slice none 0 0) 1 24 Tryz.underlying63 hi6 hz6 hs6 hb6 rfl (by decide) _ dn _ (by rfl) (by rw[<- HDV.out];exact HYR.out) ⟨w5.heap.size,0,none⟩ 1 1 [.slice (some ⟨g4,0,none⟩) np cap4] (by rfl) (by rfl) (by exact news1R w5 _ _) (by intro u hu;simp at hu;subst hu;rfl) (by decide) (by unfold maxLen;omega) (by omega) (by simp) (w5.heap.size+1) (by simp) ?_
    intro g6 cap6 w6 ho6 hg6 hlie6 _
    rw[<- HDV.out]at hg6 hlie6
    obtain⟨z0,z4,zf,zS,hFF⟩:=HF.out w6 g6 cap6 ho6 hg6 hlie6
    rw[HDV.out]at z4
    have HFF:=hid hFF
    clear ho6 hg6 hlie6 hFF HF
    dsimp [Act.put]
    refine hK9.out _ _ z0 (fun hSS=>?_)
    clear hK9 K9
    try simp only[List.setIfInBounds_toArray,List.set_cons_zero,List.set_cons_succ]
    refine tk 18 (some 58) (.nilCheck (.tmp 43)) 0 none hSS ?_
    refine tk 19 (some 59) (.fieldAddr 67 (.tmp 58) 4) 0 none hSS ?_
    try simp only[Act.put,zA,zB,zC]
    refine wpAnyH_ready (rs:=[20]) (by kernel_rfl) (by simp) (AllReadyH.cons (o:=({ dst:=none,op:=Op.store 63 (Operand.tmp 59) (Operand.tmp 57),type:=0,pos:=_,after:=_,guard:=none }:Oper)) rfl (fun K9 hK9=>?_) AllReadyH.nil)
    go_simp
    refine hK9.out _ _ zS (fun hSS=>?_)
    clear hK9 K9
    try simp only[Act.put,zA,zB,zC]
    refine wpAnyH_done (by kernel_rfl) (NoPanic.normal ?_) _
    clear hSS
    go_wp2_with fail
    go_meet
    exact⟨rfl,HFF.out⟩
   ·go_simp
    refine hK9.out _ _ yA (fun hSS=>?_)
    clear hK9 K9
    try simp only[Act.put,zA,zB,zC]
    refine wpAnyH_ready (rs:=[10]) (by kernel_rfl) (by simp) (AllReadyH.cons (o:=({ dst:=some 50,op:=Op.load 63 (Operand.tmp 49),type:=63,pos:=_,after:=_,guard:=none }:Oper)) rfl (fun K9 hK9=>?_) AllReadyH.nil)
    go_simp
    refine hK9.out _ _ hSS (fun hSS=>?_)
    clear hK9 K9
    try simp only[Act.put,zA,zB,zC]
    refine wpAnyH_ready (rs:=[17]) (by kernel_rfl) (by simp) (AllReadyH.cons (o:=({ dst:=some 57,op:=Op.call { callee:=Callee.builtin Builtin.append,args:=#[Operand.tmp 50,Operand.tmp 56],argTypes:=#[63,63] },type:=63,pos:=_,after:=_,guard:=none }:Oper)) rfl (fun K9 hK9=>?_) AllReadyH.nil)
    refine step_append_lies _ (by rfl) _ _ _ (by rfl) 0 60 i6 (.slice none 0 0) 1 24 Tryz.underlying63 hi6 hz6 hs6 hb6 rfl (by decide) _ dn _ (by rfl) (by rw[<- HDV.out];exact HYR.out) ⟨w5.heap.size,0,none⟩ 1 1 [.slice (some ⟨g4,0,none⟩) np cap4] (by rfl) (by rfl) (by exact news1R w5 _ _) (by intro u hu;simp at hu;subst hu;rfl) (by decide) (by unfold maxLen;omega) (by omega) (by simp) (w5.heap.size+1) (by simp) ?_
    intro g6 cap6 w6 ho6 hg6 hlie6 _
    rw[<- HDV.out]at hg6 hlie6
    obtain⟨z0,z4,zf,zS,hFF⟩:=HF.out w6 g6 cap6 ho6 hg6 hlie6
    rw[HDV.out]at z4
    have HFF:=hid hFF
    clear ho6 hg6 hlie6 hFF HF
    dsimp [Act.put]
    refine hK9.out _ _ z0 (fun hSS=>?_)
    clear hK9 K9
    try simp only[List.setIfInBounds_toArray,List.set_cons_zero,List.set_cons_succ]
    refine tk 18 (some 58) (.nilCheck (.tmp 43)) 0 none hSS ?_
    try simp only[Act.put,zA,zB,zC]
    refine tk 19 (some 59) (.fieldAddr 67 (.tmp 58) 4) 0 none hSS ?_
    try simp only[Act.put,zA,zB,zC]
    refine wpAnyH_ready (rs:=[20]) (by kernel_rfl) (by simp) (AllReadyH.cons (o:=({ dst:=none,op:=Op.store 63 (Operand.tmp 59) (Operand.tmp 57),type:=0,pos:=_,after:=_,guard:=none }:Oper)) rfl (fun K9 hK9=>?_) AllReadyH.nil)
    go_simp
    refine hK9.out _ _ zS (fun hSS=>?_)
    clear hK9 K9
    try simp only[Act.put,zA,zB,zC]
    refine wpAnyH_done (by kernel_rfl) (NoPanic.normal ?_) _
    clear hSS
    go_wp2_with fail
    go_meet
    exact⟨rfl,HFF.out⟩
 case rest=>
 rename World=>wq
 obtain⟨rfl,hF⟩:=hcut
 have FIN:=hid hF
 clear hF HN
 go_wp2_with fail
 exact FIN.out
open Go.RowKit
structure RT where
 g:Nat
 pv:Value
 mv:Value
 ps:List Pu
 ks:List Nat
structure Ra where
 rb:Nat
 fv:Value
 dv:Value
 sure:Int
 Fs:List ByteArray
 Ds:List (List Pu)
 rs:List (Nat×Nat)
 q:Option RT
 off:Bool
def rowsD (rs:List (Nat×Nat)) (Ds:List (List Pu)):List Value:=List.zipWith (fun r ps=>Value.slice (some ⟨r.1,0,none⟩) ps.length r.2) rs Ds
def qPtr (q:Option RT):Value:=.pointer (q.map fun q=>⟨q.g,0,none⟩)
structure Rsd (w:World) (nb fr bl:Nat) (r:Ra):Prop where
 sto:Rs5 w r.rb nb fr bl r.fv r.dv r.sure (qPtr r.q) r.off
 fst:w.ownsRow 0 9 1 r.fv nb (r.Fs.map Value.string)
 fsl:r.Fs.length=nb
 don:w.ownsRow 0 60 1 r.dv r.Ds.length (rowsD r.rs r.Ds)
 rsl:r.rs.length=r.Ds.length
 din:∀(i:Nat) (x:Nat×Nat) (ps:List Pu),r.rs[i]?=some x->r.Ds[i]?=some ps->w.ownsRow 0 150 2 (.slice (some ⟨x.1,0,none⟩) ps.length x.2) ps.length (puCells ps)
 tx:∀q,r.q=some q->Rtx w q.g r.rb q.pv q.mv q.ps q.ks
 ap:∀q,r.q=some q->∀x∈r.rs,q.pv.ownBlock≠some x.1
def Rset (r:Ra) (k:Nat):Prop:=k=r.rb\/r.fv.ownBlock=some k\/r.dv.ownBlock=some k\/(∃x∈r.rs,k=x.1)\/∃q,r.q=some q/\(k=q.g\/q.pv.ownBlock=some k\/q.mv.ownBlock=some k)
theorem Rsd.kinds{r:Ra}(h:Rsd w nb fr bl r)(hk:Rset r k):∃cur e,w.heap[k]?=some (.cells cur e (0,0))/\(e=67\/e=9\/e=60\/e=150\/e=115\/e=3):=by
 rcases hk with rfl | hk | hk | ⟨x,hx,rfl⟩ | ⟨q,hq,rfl | hk | hk⟩
 ·exact⟨_,_,h.sto,.inl rfl⟩
 ·obtain⟨cur,hc⟩:=rowKind h.fst hk
  exact⟨cur,_,hc,.inr (.inl rfl)⟩
 ·obtain⟨cur,hc⟩:=rowKind h.don hk
  exact⟨cur,_,hc,.inr (.inr (.inl rfl))⟩
 ·obtain⟨i,hi⟩:=List.mem_iff_getElem?.1 hx
  obtain⟨ps,hps⟩:∃ps,r.Ds[i]?=some ps:=⟨_,List.getElem?_eq_getElem (by have:=(List.getElem?_eq_some_iff.1 hi).1;rw[<- h.rsl];exact this)⟩
  obtain⟨cur,hc⟩:=rowKind (h.din i x ps hi hps) (k:=x.1) rfl
  exact⟨cur,_,hc,.inr (.inr (.inr (.inl rfl)))⟩
 ·exact⟨_,_,(h.tx q hq).blk,.inr (.inr (.inr (.inr (.inl rfl))))⟩
 ·obtain⟨cur,hc⟩:=rowKind (h.tx q hq).pr hk
  exact⟨cur,_,hc,.inr (.inr (.inr (.inl rfl)))⟩
 ·obtain⟨cur,hc⟩:=rowKind (h.tx q hq).mr hk
  exact⟨cur,_,hc,.inr (.inr (.inr (.inr (.inr rfl))))⟩
theorem Rsd.lt{r:Ra}(h:Rsd w nb fr bl r)(hk:Rset r k):k<w.heap.size:=by
 obtain⟨cur,e,hc,_⟩:=h.kinds hk
 exact (Array.getElem?_eq_some_iff.1 hc).1
theorem Rsd.keep{r:Ra}(h:Rsd w nb fr bl r)(hk:∀k,Rset r k->w'.heap[k]?=w.heap[k]?):Rsd w' nb fr bl r where
 sto:=h.sto.keep (hk _ (.inl rfl))
 fst:=owns_keep h.fst (fun k e=>hk k (.inr (.inl e)))
 fsl:=h.fsl
 don:=owns_keep h.don (fun k e=>hk k (.inr (.inr (.inl e))))
 rsl:=h.rsl
 din:=fun i x ps h1 h2=>owns_keep (h.din i x ps h1 h2) (fun k e=>by
  have:x.1=k:=by simpa [Value.ownBlock] using e
  subst this
  exact hk _ (.inr (.inr (.inr (.inl ⟨x,List.mem_of_getElem? h1,rfl⟩)))))
 tx:=fun q hq=>(h.tx q hq).keep (hk _ (.inr (.inr (.inr (.inr ⟨q,hq,.inl rfl⟩))))) (fun k e=>hk k (.inr (.inr (.inr (.inr ⟨q,hq,.inr (.inl e)⟩))))) (fun k e=>hk k (.inr (.inr (.inr (.inr ⟨q,hq,.inr (.inr e)⟩)))))
 ap:=h.ap
theorem Rsd.but{r:Ra}(h:Rsd w nb fr bl r)(hb:But X w w')(hx:∀k,Rset r k->¬X k):Rsd w' nb fr bl r:=h.keep (fun k hk=>hb.block k (h.lt hk) (hx k hk))
theorem Rsd.below{r:Ra}(h:Rsd w nb fr bl r)(hb:Below w.heap.size w w'):Rsd w' nb fr bl r:=h.keep (fun k hk=>hb.block k (h.lt hk))
theorem Rsd.str{r:Ra}(h:Rsd w nb fr bl r):StrR w r.fv r.Fs:=StrL.of_row h.fsl h.fst
theorem rowsD_get{rs:List (Nat×Nat)}{Ds:List (List Pu)}{ps:List Pu}{x:Nat×Nat}(h1:rs[i]?=some x)(h2:Ds[i]?=some ps):(rowsD rs Ds)[i]?=some (.slice (some ⟨x.1,0,none⟩) ps.length x.2):=by
 unfold rowsD
 rw[List.getElem?_zipWith,h1,h2]
theorem rowsD_snoc{rs:List (Nat×Nat)}{Ds:List (List Pu)}(h:rs.length=Ds.length)(x:Nat×Nat)(ps:List Pu):rowsD (rs++[x]) (Ds++[ps])=rowsD rs Ds++[.slice (some ⟨x.1,0,none⟩) ps.length x.2]:=by
 unfold rowsD
 rw[List.zipWith_append h]
 rfl
theorem Rsd.done{r:Ra}(h:Rsd w nb fr bl r):∃da dc,r.dv=.slice da r.Ds.length dc/\DoneL w da r.Ds:=by
 obtain⟨da,dc,e,_⟩:=owns_slice h.don
 refine⟨da,dc,e,fun i ps hps=>?_⟩
 have hil:=(List.getElem?_eq_some_iff.1 hps).1
 obtain⟨x,hx⟩:∃x,r.rs[i]?=some x:=⟨_,List.getElem?_eq_getElem (by rw[h.rsl];exact hil)⟩
 have hd:=h.don
 rcases hd.2 with ⟨_,q0⟩ | ⟨g,cap,cur,q1,_⟩
 ·omega
 ·rw[e]at q1
  have e2:da=some ⟨g,0,none⟩:=by injection q1
  subst e2
  rw[e]at hd
  obtain⟨a,c,q3,q4⟩:=PutsL.of_row (h.din i x ps hx hps) rfl
  have e3:a=some ⟨x.1,0,none⟩:=by injection q3 with e3;exact e3.symm
  subst e3
  exact⟨g,some ⟨x.1,0,none⟩,x.2,rfl,(World.ownsRow.cellAt hd i (by omega)).trans (rowsD_get hx hps),q4⟩
def rdC (nb fr bl:Nat) (Fs:List ByteArray) (Ds:List (List Pu)) (off:Bool) (y:Int):ByteArray×Int:=if off then (ByteArray.empty,24) else if homeC nb fr bl y≠0 then (ByteArray.empty,42) else (holdsU y (Fs.getD y.toNat ByteArray.empty) Ds,0)
theorem Rsd.read{r:Ra}(h:Rsd w nb fr bl r)(hnb:nb<=524288)(hfit:fr+bl<=nb)(hkb:r.Ds.length<=1073741823)(hpl:∀ps∈r.Ds,ps.length<=1073741823)(y:Int) :
  Calls Tryz.prog 38 #[.pointer (some ⟨r.rb,0,none⟩),.int .i64 y] w fun e w'=>e=.returned (.tuple #[.string (rdC nb fr bl r.Fs r.Ds r.off y).1,.int .i64 (rdC nb fr bl r.Fs r.Ds r.off y).2])/\Below w.heap.size w w':=by
 have hsto:=h.sto
 unfold rdC
 cases hoff:r.off with
 | true=>
  rw[hoff]at hsto
  refine Calls.mono (rread_off hsto y) ?_
  rintro e w' ⟨rfl,rfl⟩
  exact⟨rfl,Below.refl _ _⟩
 | false=>
  rw[hoff]at hsto
  by_cases hh:homeC nb fr bl y=0
  ·obtain⟨yn,hy⟩:∃yn:Nat,y=(yn:Int)/\yn<nb:=by
    unfold homeC at hh
    split at hh
    ·exact absurd hh (by decide)
    ·rename_i q
     exact⟨y.toNat,by omega,by omega⟩
   obtain⟨rfl,hyn⟩:=hy
   obtain⟨da,dc,e1,hD⟩:=h.done
   rw[e1]at hsto
   have hF:r.Fs[yn]?=some (r.Fs.getD yn ByteArray.empty):=by
    rw[List.getD_eq_getElem?_getD]
    have:yn<r.Fs.length:=by rw[h.fsl];exact hyn
    rw[List.getElem?_eq_getElem this]
    rfl
   refine Calls.mono (rread_home hsto (fun w' b=>⟨h.str.below b,hD.below b⟩) hnb hfit yn hh _ hF h.fsl hkb hpl) ?_
   rintro e w' ⟨rfl,q⟩
   refine⟨?_,q⟩
   simp[hh]
  ·refine Calls.mono (rread_far hsto hnb hfit y hh) ?_
   rintro e w' ⟨rfl,q⟩
   refine⟨?_,q⟩
   simp[hh]
end Go.Proofs.YthfojpcibnfmgaaGreat
