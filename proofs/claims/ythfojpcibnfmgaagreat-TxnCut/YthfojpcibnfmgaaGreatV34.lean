import Derived.Test.YthfojpcibnfmgaaGreatV33
import Derived.Test.YthfojpcibnfmgaaGreatV11
import Derived.Test.YthfojpcibnfmgaaGreatV31
set_option maxRecDepth 100000
set_option maxHeartbeats 16000000
namespace Go.Proofs.YthfojpcibnfmgaaGreat
variable {w:World}
variable {M bl fr i k mc mg nb p pc pn rb y:Nat}
variable {dv fv mv ov pv:Value}
variable {xs xsm:List Value}
variable {ma pa:Option Addr}
variable {H α:Type}
variable {ms:List Mr}
open Go.RowKit
theorem rwrite_raw{g:Nat}(h:Rt5 w g rb pv mv false){sure:Int}(hs:Rs5 w rb nb fr bl fv dv sure ov false)(hr:w.ownsRow 0 150 2 pv M xs)(hM:M<=1073741823)(y:Int)(HA:Calls Tryz.prog 75 #[.pointer (some ⟨rb,0,none⟩),.int .i64 y] w fun e w'=>e=.returned (.int .i64 0)/\Below w.heap.size w w')(ad:Addr)(cd:Nat)(S:ByteArray)(hC:∀w',But (fun k=>k=g\/pv.ownBlock=some k) w w'->(convert 40 9 (.slice (some ad) 512 cd)).run Tryz.prog w'=.ok (.string S) w') :
  Calls Tryz.prog 119 #[.pointer (some ⟨g,0,none⟩),.int .i64 y,.slice (some ad) 512 cd] w fun e w'=>e=.returned (.int .i64 0)/\∃g' cap,Rt5 w' g rb (.slice (some ⟨g',0,none⟩) (M+1) cap) mv false/\w'.ownsRow 0 150 2 (.slice (some ⟨g',0,none⟩) (M+1) cap) (M+1) (xs++[.int .i64 y,.string S])/\(pv.ownBlock=some g'\/w.heap.size<=g')/\But (fun k=>k=g\/pv.ownBlock=some k) w w':=by
 have HS:=hid (rstate_any h hs)
 have e0:stC false false=0:=rfl
 rw[e0]at HS
 clear e0 hs
 obtain⟨PO,hPO⟩:∃PO:Ending->World->Prop,PO=fun e w'=>e=.returned (.int .i64 0)/\∃g' cap,Rt5 w' g rb (.slice (some ⟨g',0,none⟩) (M+1) cap) mv false/\w'.ownsRow 0 150 2 (.slice (some ⟨g',0,none⟩) (M+1) cap) (M+1) (xs++[.int .i64 y,.string S])/\(pv.ownBlock=some g'\/w.heap.size<=g')/\But (fun k=>k=g\/pv.ownBlock=some k) w w':=⟨_,rfl⟩
 rw[<- hPO]
 have c0:=h.cell 0
 simp at c0
 have HA:=hid HA
 have HW:Hid (∀w2,Below w.heap.size w w2->Rt5 w2 g rb pv mv false/\w2.ownsRow 0 150 2 pv M xs/\(∀w',But (fun k=>k=g\/pv.ownBlock=some k) w2 w'->(convert 40 9 (.slice (some ad) 512 cd)).run Tryz.prog w'=.ok (.string S) w')/\∀e w',(e=.returned (.int .i64 0)/\∃g' cap,Rt5 w' g rb (.slice (some ⟨g',0,none⟩) (M+1) cap) mv false/\w'.ownsRow 0 150 2 (.slice (some ⟨g',0,none⟩) (M+1) cap) (M+1) (xs++[.int .i64 y,.string S])/\(pv.ownBlock=some g'\/w2.heap.size<=g')/\But (fun k=>k=g\/pv.ownBlock=some k) w2 w')->PO e w'):=fun w2 b=>by
  refine⟨h.keep (b.block g h.lt),owns_below hr b,fun w' q=>hC w' ((But.of_below b).trans q),fun e w' q=>?_⟩
  rw[hPO]
  obtain⟨q1,g',cap,q2,q3,q4,q5⟩:=q
  exact⟨q1,g',cap,q2,q3,q4.imp id (fun r=>Nat.le_trans b.size r),(But.of_below b).trans q5⟩
 obtain⟨i5,hi5,hz5,hs5,hb5⟩:=info_parts info150
 clear hPO h hr hC
 go_enter Tryz.func119,Tryz.ntmps119
 go_wp2_with fail
 refine Calls.mono HS.out ?_
 rintro e w9 ⟨rfl,hw9⟩
 rw[hw9]
 clear hw9 HS
 go_wp2_with fail
 refine Calls.mono HA.out ?_
 rintro e w8 ⟨rfl,b8⟩
 obtain⟨h,hr,hC,hP⟩:=HW.out w8 b8
 clear b8 HW HA c0
 have hxl:=h.lt
 have x1:=h.cell 1
 simp at x1
 have x0:=hC w8 (But.refl _ w8)
 have xd:(convert 40 9 (.slice (some ad) 512 cd)).run Tryz.prog w8.drew=.ok (.string S) w8.drew:=hC w8.drew (But.refl _ w8).drew
 obtain⟨wA,hwA⟩:∃wA,wA=w8.alloc (.cells #[.int .i64 y,.string S] 150):=⟨_,rfl⟩
 have bA:Below w8.heap.size w8 wA:=by rw[hwA];exact (Below.refl _ _).alloc (Nat.le_refl _) _
 have zA:wA.heap.size=w8.heap.size+1:=by rw[hwA];simp
 have xA:(convert 40 9 (.slice (some ad) 512 cd)).run Tryz.prog (w8.alloc (.cells #[.int .i64 y,.string S] 150)).drew=.ok (.string S) (w8.alloc (.cells #[.int .i64 y,.string S] 150)).drew:=by rw[<- hwA];exact hC _ (But.of_below bA).drew
 have x1A:(w8.alloc (.cells #[.int .i64 y,.string S] 150)).drew.cell? ⟨g,1,none⟩=some pv:=by rw[<- hwA];exact (bA.cell (p:=⟨g,1,none⟩) hxl).trans x1
 have HRowA:Hid ((w8.alloc (.cells #[.int .i64 y,.string S] 150)).drew.ownsRow 0 150 2 pv M xs):=by rw[<- hwA];exact owns_below hr bA.drew
 have HN:Hid (∀w6 g4 cap4,w6.ownsRow 0 150 2 (.slice (some ⟨g4,0,none⟩) (M+1) cap4) (M+1) (xs++[.int .i64 y,.string S])->(w8.alloc (.cells #[.int .i64 y,.string S] 150)).drew.grownBy w6 pv.ownBlock->(pv.ownBlock=some g4\/g4=w8.heap.size+1)->(convert 40 9 (.slice (some ad) 512 cd)).run Tryz.prog w6=.ok (.string S) w6/\w6.cell? ⟨g,1,none⟩=some pv/\w6.frozen? ⟨g,1,none⟩=false/\(convert 40 9 (.slice (some ad) 512 cd)).run Tryz.prog (w6.setCell ⟨g,1,none⟩ (.slice (some ⟨g4,0,none⟩) (M+1) cap4))=.ok (.string S) (w6.setCell ⟨g,1,none⟩ (.slice (some ⟨g4,0,none⟩) (M+1) cap4))/\PO (.returned (.int .i64 0)) (w6.setCell ⟨g,1,none⟩ (.slice (some ⟨g4,0,none⟩) (M+1) cap4))):=fun w6 g4 cap4 ho hg hl=>by
  rw[<- hwA]at hg
  have bg:But (fun k=>pv.ownBlock=some k) wA w6:=(But.refl _ wA).drew.of_grown hg (fun k e _=>e)
  have sg:=bg.size
  have hxn:¬pv.ownBlock=some g:=fun e=>by
   obtain⟨cur,hcur⟩:=rowKind hr e
   exact kind_ne hcur h (by decide) rfl
  have hx6:Rt5 w6 g rb pv mv false:=h.keep ((bg.block g (by omega) hxn).trans (bA.block g hxl))
  have hs6:=hx6.set1 (.slice (some ⟨g4,0,none⟩) (M+1) cap4)
  have hg4x:g4≠g:=by
   rcases hl with e | e
   ·exact fun q=>hxn (q ▸ e)
   ·omega
  have bs:But (fun k=>k=g) w6 (w6.setCell ⟨g,1,none⟩ (.slice (some ⟨g4,0,none⟩) (M+1) cap4)):=(But.refl (fun k=>k=g) w6).setCell (p:=⟨g,1,none⟩) rfl _
  have bw6:But (fun k=>k=g\/pv.ownBlock=some k) w8 w6:=(But.of_below bA (X:=fun k=>k=g\/pv.ownBlock=some k)).comp bg (fun _ _ q=>.inr q)
  have bws:=bw6.comp bs (fun _ _ q=>.inl q)
  have d1:=hx6.cell 1
  simp at d1
  refine⟨hC _ bw6,d1,hx6.frozen 1,hC _ bws,hP _ _ ⟨rfl,g4,cap4,hs6,owns_keep ho (fun k e=>?_),hl.imp id (fun e=>by omega),bws⟩⟩
  have:g4=k:=by simpa [Value.ownBlock] using e
  subst this
  exact bs.block g4 (World.ownsRow.lt ho g4 rfl).2 hg4x
 clear hwA bA zA hP h hr hC
 go_upto_region 9 with fail
 go_cut [6] (fun s6 wx=>s6=.int .i64 0/\PO (.returned (.int .i64 0)) wx)
 case first=>
  refine wp_region_noPanic ?_
  refine Gz (S:=fun w'=>(convert 40 9 (.slice (some ad) 512 cd)).run Tryz.prog w'=.ok (.string S) w') xd (fun hSS=>?_)
  refine Ti 0 rfl ?_
  refine Ti 1 rfl ?_
  refine Ti 2 rfl ?_
  refine Ti 3 rfl ?_
  try simp only[Act.put,zA,zB,zC]
  refine Ti 5 rfl ?_
  refine Ti 6 rfl ?_
  refine Ti 7 rfl ?_
  refine Ti 8 rfl ?_
  try simp only[Act.put,zA,zB,zC]
  refine Rr 4 9 rfl rfl (fun K9 hK9=>?_) (fun K9 hK9=>?_)
  ·go_simp
   refine hK9.out _ _ hSS (fun hSS=>?_)
   try simp only[Act.put,zA,zB,zC]
   refine Ri 9 rfl (fun K9 hK9=>?_)
   go_simp
   refine hK9.out _ _ xA (fun hSS=>?_)
   try simp only[Act.put,zA,zB,zC]
   refine Ri 10 rfl (fun K9 hK9=>?_)
   refine step_append_lies _ (by rfl) _ _ _ (by rfl) 0 150 i5 (.agg #[.int .i64 0,.string ByteArray.empty]) 2 24 Tryz.underlying60 hi5 hz5 hs5 hb5 rfl (by decide) _ M _ (by rfl) (by exact HRowA.out) ⟨w8.heap.size,0,none⟩ 1 1 [.int .i64 y,.string S] (by rfl) (by rfl) (by exact news2R w8 _ _ _) (by intro u hu;simp at hu;rcases hu with rfl | rfl <;> rfl) (by decide) (by unfold maxLen;omega) (by omega) (by simp) (w8.heap.size+1) (by simp) ?_
   intro g4 cap4 w6 ho4 hg4 hlie4 _
   obtain⟨y2,y3,yf,yS,hF⟩:=HN.out w6 g4 cap4 ho4 hg4 hlie4
   have HF:=hid hF
   clear ho4 hg4 hlie4 hF HN
   dsimp [Act.put]
   refine hK9.out _ _ y2 (fun hSS=>?_)
   try simp only[List.setIfInBounds_toArray,List.set_cons_zero,List.set_cons_succ]
   refine Ti 11 rfl ?_
   try simp only[Act.put,zA,zB,zC]
   refine Ti 12 rfl ?_
   try simp only[Act.put,zA,zB,zC]
   refine Ri 13 rfl (fun K9 hK9=>?_)
   go_simp
   refine hK9.out _ _ yS (fun hSS=>?_)
   try simp only[Act.put,zA,zB,zC]
   refine Dn (NoPanic.normal ?_)
   clear hSS
   go_wp2_with fail
   go_meet
   have hF1:=HF.out
   exact⟨rfl,hF1⟩
  ·go_simp
   refine hK9.out _ _ xA (fun hSS=>?_)
   try simp only[Act.put,zA,zB,zC]
   refine Ri 4 rfl (fun K9 hK9=>?_)
   go_simp
   refine hK9.out _ _ hSS (fun hSS=>?_)
   try simp only[Act.put,zA,zB,zC]
   refine Ri 10 rfl (fun K9 hK9=>?_)
   refine step_append_lies _ (by rfl) _ _ _ (by rfl) 0 150 i5 (.agg #[.int .i64 0,.string ByteArray.empty]) 2 24 Tryz.underlying60 hi5 hz5 hs5 hb5 rfl (by decide) _ M _ (by rfl) (by exact HRowA.out) ⟨w8.heap.size,0,none⟩ 1 1 [.int .i64 y,.string S] (by rfl) (by rfl) (by exact news2R w8 _ _ _) (by intro u hu;simp at hu;rcases hu with rfl | rfl <;> rfl) (by decide) (by unfold maxLen;omega) (by omega) (by simp) (w8.heap.size+1) (by simp) ?_
   intro g4 cap4 w6 ho4 hg4 hlie4 _
   obtain⟨y2,y3,yf,yS,hF⟩:=HN.out w6 g4 cap4 ho4 hg4 hlie4
   have HF:=hid hF
   clear ho4 hg4 hlie4 hF HN
   dsimp [Act.put]
   refine hK9.out _ _ y2 (fun hSS=>?_)
   try simp only[List.setIfInBounds_toArray,List.set_cons_zero,List.set_cons_succ]
   refine Ti 11 rfl ?_
   refine Ti 12 rfl ?_
   try simp only[Act.put,zA,zB,zC]
   refine Ri 13 rfl (fun K9 hK9=>?_)
   go_simp
   refine hK9.out _ _ yS (fun hSS=>?_)
   try simp only[Act.put,zA,zB,zC]
   refine Dn (NoPanic.normal ?_)
   clear hSS
   go_wp2_with fail
   go_meet
   have hF1:=HF.out
   exact⟨rfl,hF1⟩
 case rest=>
 rename World=>wq
 obtain⟨rfl,hF⟩:=hcut
 have FIN:=hid hF
 clear hF HN HRowA x1 x0 xd x1A xA
 go_wp2_with fail
 exact FIN.out
open Go.RowKit
theorem rmark_no{v:Value}{code:Int}(HS:Calls Tryz.prog 84 #[v] w fun e w'=>e=.returned (.int .i64 code)/\w'=w)(hc:(code != 0)=true):Calls Tryz.prog 79 #[v] w fun e w'=>e=.returned (.tuple #[.int .i64 0,.int .i64 code])/\w'=w:=by
 have HS:=hid HS
 go_enter Tryz.func79,Tryz.ntmps79
 go_wp2_with fail
 refine Calls.mono HS.out ?_
 rintro e w9 ⟨rfl,hw9⟩
 rw[hw9]
 clear hw9 HS
 go_wp2
 go_ret2
 exact⟨rfl,rfl⟩
theorem rback_no{v:Value}{code:Int}(HS:Calls Tryz.prog 84 #[v] w fun e w'=>e=.returned (.int .i64 code)/\w'=w)(hc:(code != 0)=true)(k:Int):Calls Tryz.prog 80 #[v,.int .i64 k] w fun e w'=>e=.returned (.int .i64 code)/\w'=w:=by
 have HS:=hid HS
 go_enter Tryz.func80,Tryz.ntmps80
 go_wp2_with fail
 refine Calls.mono HS.out ?_
 rintro e w9 ⟨rfl,hw9⟩
 rw[hw9]
 clear hw9 HS
 go_wp2
 go_ret
 exact⟨rfl,rfl⟩
theorem rcommit_no{v:Value}{code:Int}(HS:Calls Tryz.prog 84 #[v] w fun e w'=>e=.returned (.int .i64 code)/\w'=w)(hc:(code != 0)=true):Calls Tryz.prog 81 #[v] w fun e w'=>e=.returned (.int .i64 code)/\w'=w:=by
 have HS:=hid HS
 go_enter Tryz.func81,Tryz.ntmps81
 go_wp2_with fail
 refine Calls.mono HS.out ?_
 rintro e w9 ⟨rfl,hw9⟩
 rw[hw9]
 clear hw9 HS
 go_wp2
 go_ret
 exact⟨rfl,rfl⟩
theorem rwrite_no{v:Value}{code:Int}(HS:Calls Tryz.prog 84 #[v] w fun e w'=>e=.returned (.int .i64 code)/\w'=w)(hc:(code != 0)=true)(y:Int)(dv:Value):Calls Tryz.prog 119 #[v,.int .i64 y,dv] w fun e w'=>e=.returned (.int .i64 code)/\w'=w:=by
 have HS:=hid HS
 go_enter Tryz.func119,Tryz.ntmps119
 go_wp2_with fail
 refine Calls.mono HS.out ?_
 rintro e w9 ⟨rfl,hw9⟩
 rw[hw9]
 clear hw9 HS
 go_wp2
 go_ret
 exact⟨rfl,rfl⟩
theorem rwrite_far{g:Nat}(h:Rt5 w g rb pv mv false){sure:Int}(hs:Rs5 w rb nb fr bl fv dv sure ov false)(y:Int)(HA:Calls Tryz.prog 75 #[.pointer (some ⟨rb,0,none⟩),.int .i64 y] w fun e w'=>e=.returned (.int .i64 42)/\Below w.heap.size w w')(xv:Value):Calls Tryz.prog 119 #[.pointer (some ⟨g,0,none⟩),.int .i64 y,xv] w fun e w'=>e=.returned (.int .i64 42)/\Below w.heap.size w w':=by
 have HS:=hid (rstate_any h hs)
 have e0:stC false false=0:=rfl
 rw[e0]at HS
 clear e0
 have c0:=h.cell 0
 simp at c0
 have HA:=hid HA
 clear h hs
 go_enter Tryz.func119,Tryz.ntmps119
 go_wp2_with fail
 refine Calls.mono HS.out ?_
 rintro e w9 ⟨rfl,hw9⟩
 rw[hw9]
 clear hw9 HS
 go_wp2_with fail
 refine Calls.mono HA.out ?_
 rintro e w8 ⟨rfl,b8⟩
 have B8:=hid b8
 clear b8 HA
 go_wp2
 go_ret
 exact⟨rfl,B8.out⟩
theorem rwrite_len{g:Nat}(h:Rt5 w g rb pv mv false){sure:Int}(hs:Rs5 w rb nb fr bl fv dv sure ov false)(y:Int)(HA:Calls Tryz.prog 75 #[.pointer (some ⟨rb,0,none⟩),.int .i64 y] w fun e w'=>e=.returned (.int .i64 0)/\Below w.heap.size w w')(xa:Option Addr)(n xc:Nat)(hn:n≠512):Calls Tryz.prog 119 #[.pointer (some ⟨g,0,none⟩),.int .i64 y,.slice xa n xc] w fun e w'=>e=.returned (.int .i64 43)/\Below w.heap.size w w':=by
 have HS:=hid (rstate_any h hs)
 have e0:stC false false=0:=rfl
 rw[e0]at HS
 clear e0
 have c0:=h.cell 0
 simp at c0
 have HA:=hid HA
 have hq:((n:Int) != 512)=true:=by simp;omega
 clear h hs hn
 go_enter Tryz.func119,Tryz.ntmps119
 go_wp2_with fail
 refine Calls.mono HS.out ?_
 rintro e w9 ⟨rfl,hw9⟩
 rw[hw9]
 clear hw9 HS
 go_wp2_with fail
 refine Calls.mono HA.out ?_
 rintro e w8 ⟨rfl,b8⟩
 have B8:=hid b8
 clear b8 HA
 go_wp2
 go_ret
 exact⟨rfl,B8.out⟩
theorem rback_far{g:Nat}(h:Rt5 w g rb pv (.slice ma M mc) false){sure:Int}(hs:Rs5 w rb nb fr bl fv dv sure ov false)(k:Int)(hk:k<0\/(M:Int)<=k):Calls Tryz.prog 80 #[.pointer (some ⟨g,0,none⟩),.int .i64 k] w fun e w'=>e=.returned (.int .i64 52)/\w'=w:=by
 have HS:=hid (rstate_any h hs)
 have e0:stC false false=0:=rfl
 rw[e0]at HS
 clear e0
 have c2:=h.cell 2
 simp at c2
 clear h hs
 by_cases h0:k<0
 ·clear hk
  go_enter Tryz.func80,Tryz.ntmps80
  go_wp2_with fail
  refine Calls.mono HS.out ?_
  rintro e w9 ⟨rfl,hw9⟩
  rw[hw9]
  clear hw9 HS
  go_wp2
  go_ret
  exact⟨rfl,rfl⟩
 ·have hk2:(M:Int)<=k:=by omega
  clear hk
  go_enter Tryz.func80,Tryz.ntmps80
  go_wp2_with fail
  refine Calls.mono HS.out ?_
  rintro e w9 ⟨rfl,hw9⟩
  rw[hw9]
  clear hw9 HS
  go_wp2
  go_ret
  exact⟨rfl,rfl⟩
theorem rback_raw{g:Nat}(h:Rt5 w g rb (.slice pa pn pc) (.slice (some ⟨mg,0,none⟩) M mc) false){sure:Int}(hs:Rs5 w rb nb fr bl fv dv sure ov false)(hmr:w.ownsRow 0 3 1 (.slice (some ⟨mg,0,none⟩) M mc) M xsm)(hk:k<M)(hM:M<=1073741823)(hmp:xsm[k]?=some (.int .i64 (p:Int)))(hpc:p<=pc)(hMc:M<=mc) :
  Calls Tryz.prog 80 #[.pointer (some ⟨g,0,none⟩),.int .i64 (k:Int)] w fun e w'=>e=.returned (.int .i64 0)/\Rt5 w' g rb (.slice pa p pc) (.slice (some ⟨mg,0,none⟩) (k+1) mc) false/\But (fun x=>x=g) w w':=by
 have HS:=hid (rstate_any h hs)
 have e0:stC false false=0:=rfl
 rw[e0]at HS
 clear e0
 obtain⟨PO,hPO⟩:∃PO:Ending->World->Prop,PO=fun e w'=>e=.returned (.int .i64 0)/\Rt5 w' g rb (.slice pa p pc) (.slice (some ⟨mg,0,none⟩) (k+1) mc) false/\But (fun x=>x=g) w w':=⟨_,rfl⟩
 rw[<- hPO]
 have c1:=h.cell 1
 have c2:=h.cell 2
 have f1:=h.frozen 1
 have ck:=(World.ownsRow.cellAt hmr k (by omega)).trans hmp
 have hmg:mg≠g:=by
  obtain⟨cur,hcur⟩:=rowKind hmr rfl
  exact kind_ne hcur h (by decide)
 have h1:=h.set1 (.slice pa p pc)
 have d2:=h1.cell 2
 have df:=h1.frozen 2
 have dk:(w.setCell ⟨g,1,none⟩ (.slice pa p pc)).cell? ⟨mg,k,none⟩=some (.int .i64 (p:Int)):=by
  rw[World.cell?_of_block (w:=w) (Below.heap_setCell _ _ _ _ hmg)]
  exact ck
 have h2:=h1.set2 (.slice (some ⟨mg,0,none⟩) (k+1) mc)
 simp at c1 c2 d2
 have HP:Hid (PO (.returned (.int .i64 0)) ((w.setCell ⟨g,1,none⟩ (.slice pa p pc)).setCell ⟨g,2,none⟩ (.slice (some ⟨mg,0,none⟩) (k+1) mc)).drew):=by
  rw[hPO]
  exact⟨rfl,h2,(((But.refl (fun x=>x=g) w).setCell (p:=⟨g,1,none⟩) rfl _).setCell (p:=⟨g,2,none⟩) rfl _).drew⟩
 have hk':(k:Int)<(M:Int):=by omega
 have hk0:¬(k:Int)<0:=by omega
 have hp':(p:Int)<=(pc:Int):=by omega
 have hk1:(k:Int)+1<=(mc:Int):=by omega
 clear h hs hmr hmp hPO h1 h2 hmg hpc hMc
 go_enter Tryz.func80,Tryz.ntmps80
 go_wp2_with fail
 refine Calls.mono HS.out ?_
 rintro e w9 ⟨rfl,hw9⟩
 rw[hw9]
 clear hw9 HS
 go_upto_region 6 with fail
 refine Gz (S:=fun w'=>w'.cell? ⟨g,2,none⟩=some (.slice (some ⟨mg,0,none⟩) M mc)/\w'.cell? ⟨mg,k,none⟩=some (.int .i64 (p:Int))) ⟨c2,ck⟩ (fun hSS=>?_)
 refine Ti 0 rfl ?_
 refine Ti 1 rfl ?_
 refine Ti 2 rfl ?_
 refine Ti 3 rfl ?_
 try simp only[Act.put,zA,zB,zC]
 refine Ti 5 rfl ?_
 refine Ti 6 rfl ?_
 refine Ti 7 rfl ?_
 refine Ti 8 rfl ?_
 try simp only[Act.put,zA,zB,zC]
 refine Ti 9 rfl ?_
 refine Ti 10 rfl ?_
 refine Ti 11 rfl ?_
 try simp only[Act.put,zA,zB,zC]
 refine Ri 4 rfl (fun K9 hK9=>?_)
 go_simp
 refine hK9.out _ _ hSS (fun hSS=>?_)
 try simp only[Act.put,zA,zB,zC]
 refine Ti 12 rfl ?_
 refine Ti 13 rfl ?_
 try simp only[Act.put,zA,zB,zC]
 refine Ti 14 rfl ?_
 try simp only[Act.put,zA,zB,zC]
 refine Ri 15 rfl (fun K9 hK9=>?_)
 go_simp
 refine hK9.out _ _ ⟨d2,dk⟩ (fun hSS=>?_)
 try simp only[Act.put,zA,zB,zC]
 refine Dn ?_
 clear hSS
 go_wp2_with fail
 exact HP.out
open Go.RowKit
def seenU (ps:List Pu) (i:Nat):Bool:=match ps[i]? with
 | some q=>(ps.take i).any (fun r=>r.1 == q.1)
 | none=>false
def cntU (ps:List Pu):Nat->Nat
 | 0=>0
 | i+1=>cntU ps i+if seenU ps i then 0 else 1
theorem cntU_le(ps:List Pu)(i:Nat):cntU ps i<=i:=by
 induction i with
 | zero=>exact Nat.le_refl _
 | succ i ih=>simp only[cntU];split <;> omega
theorem rblocks_any{g:Nat}{over:Bool}{ps:List Pu}(h:Rt5 w g rb (.slice pa ps.length pc) mv over)(hP:PutsL w pa ps)(hpl:ps.length<=1073741823) :
  Calls Tryz.prog 53 #[.pointer (some ⟨g,0,none⟩)] w fun e w'=>e=.returned (.int .i64 (cntU ps ps.length:Nat))/\Below w.heap.size w w':=by
 have c1:=h.cell 1
 simp at c1
 obtain⟨np,hnp⟩:∃np,np=ps.length:=⟨_,rfl⟩
 rw[<- hnp]at c1 hpl ⊢
 have HN:=hid hnp
 have HP:=hid hP
 have HC:=hid (cntU_le ps)
 have hgl:=h.lt
 have HCl:Hid (∀w2,Below w.heap.size w w2->w2.cell? ⟨g,1,none⟩=some (.slice pa np pc)):=fun w2 b=>cell_below b c1
 have HPl:Hid (∀w2,Below w.heap.size w w2->PutsL w2 pa ps):=fun w2 b=>hP.below b
 clear h hP hnp c1 HP hgl
 go_enter Tryz.func53,Tryz.ntmps53
 go_wp2_with fail
 go_loopw [3,4] (fun kv iv wr=>∃i:Nat,i<=np/\iv=.int .i64 (i:Int)/\kv=.int .i64 (cntU ps i:Nat)/\Below w.heap.size w wr) (fun _ iv _=>np-(intOf iv).toNat)
 case atStart=>exact⟨0,Nat.zero_le _,rfl,rfl,Below.refl _ _⟩
 case round=>
  obtain⟨i,hin,rfl,rfl,hwr⟩:=hrel
  have c1:=HCl.out wr hwr
  have hci:=HC.out i
  by_cases hi:i<np
  ·have hi':(i:Int)<(np:Int):=by omega
   obtain⟨q,hq⟩:∃q,ps[i]?=some q:=⟨_,List.getElem?_eq_getElem (by have:=HN.out;omega)⟩
   obtain⟨pg,rfl,hq1,hq2⟩:=HPl.out wr hwr i q hq
   clear hq2
   have HSe:=hid (show seenU ps i=(ps.take i).any (fun r=>r.1 == q.1) by unfold seenU;rw[hq])
   have HPw:=hid (HPl.out wr hwr)
   have HB:=hid hwr
   obtain⟨ww,hww⟩:∃ww,ww=wr:=⟨_,rfl⟩
   rw[<- hww]at c1 hq1 HPw HB ⊢
   clear hwr hq hww wr
   go_wp2_with fail
   go_loopw [5,6] (fun sv jv wx=>∃j:Nat,j<=i/\jv=.int .i64 (j:Int)/\sv=.bool ((ps.take j).any (fun r=>r.1 == q.1))/\Below ww.heap.size ww wx) (fun _ jv _=>i-(intOf jv).toNat)
   case atStart=>exact⟨0,Nat.zero_le _,rfl,rfl,Below.refl _ _⟩
   case round=>
    obtain⟨j,hji,rfl,rfl,hwx⟩:=hrel
    obtain⟨wy,hwy⟩:∃wy,wy=wr:=⟨_,rfl⟩
    rw[<- hwy]at hwx ⊢
    clear hwy wr
    have d1:=cell_below hwx c1
    have dq:=cell_below hwx hq1
    by_cases hj:j<i
    ·have hj':(j:Int)<(i:Int):=by omega
     have hjn:(j:Int)<(np:Int):=by omega
     obtain⟨r,hr⟩:∃r,ps[j]?=some r:=⟨_,List.getElem?_eq_getElem (by have:=HN.out;omega)⟩
     obtain⟨pg',e9,hr1,hr2⟩:=HPw.out j r hr
     clear hr2
     obtain rfl:pg=pg':=by injection e9 with e9;injection e9
     have dr:=cell_below hwx hr1
     have HT:=hid (show (ps.take (j+1)).any (fun r=>r.1 == q.1)=((ps.take j).any (fun r=>r.1 == q.1) || (r.1 == q.1)) by rw[List.take_add_one,hr];simp)
     have HX:=hid hwx
     clear hr hr1 hwx e9
     generalize hsn:(ps.take j).any (fun r=>r.1 == q.1)=sn at *
     clear hsn
     cases sn
     ·go_upto_region 9 with fail
      refine Gz (S:=fun w'=>w'.cell? ⟨g,1,none⟩=some (.slice (some ⟨pg,0,none⟩) np pc)/\w'.cell? ⟨pg,j * 2,none⟩=some (.int .i64 r.1)/\w'.cell? ⟨pg,i * 2,none⟩=some (.int .i64 q.1)) ⟨d1,dr,dq⟩ (fun hSS=>?_)
      refine Ti 0 rfl ?_
      refine Ti 1 rfl ?_
      refine Ti 2 rfl ?_
      refine Ti 3 rfl ?_
      try simp only[Act.put,zA,zB,zC]
      refine Ti 4 rfl ?_
      refine Ti 5 rfl ?_
      refine Ti 6 rfl ?_
      refine Ti 7 rfl ?_
      try simp only[Act.put,zA,zB,zC]
      refine Ti 8 rfl ?_
      refine Ti 9 rfl ?_
      refine Ti 10 rfl ?_
      refine Ti 11 rfl ?_
      try simp only[Act.put,zA,zB,zC]
      refine Ti 12 rfl ?_
      refine Ti 13 rfl ?_
      refine Ti 14 rfl ?_
      refine Ti 15 rfl ?_
      try simp only[Act.put,zA,zB,zC]
      refine Ti 16 rfl ?_
      refine Ti 17 rfl ?_
      refine Ti 18 rfl ?_
      refine Ti 19 rfl ?_
      try simp only[Act.put,zA,zB,zC]
      refine Ti 20 rfl ?_
      try simp only[Act.put,zA,zB,zC]
      refine Dn ?_
      clear hSS
      go_wp2_with fail
      go_roundw
      case rel=>exact⟨j+1,by omega,by simp,by rw[HT.out];rfl,HX.out.drew⟩
      case measure=>simp[intOf];omega
     ·go_upto_region 9 with fail
      refine Gz (S:=fun w'=>w'.cell? ⟨g,1,none⟩=some (.slice (some ⟨pg,0,none⟩) np pc)/\w'.cell? ⟨pg,j * 2,none⟩=some (.int .i64 r.1)/\w'.cell? ⟨pg,i * 2,none⟩=some (.int .i64 q.1)) ⟨d1,dr,dq⟩ (fun hSS=>?_)
      refine Ti 0 rfl ?_
      refine Ti 1 rfl ?_
      refine Si 2 rfl ?_
      refine Si 3 rfl ?_
      try simp only[Act.put,zA,zB,zC]
      refine Si 4 rfl ?_
      refine Si 5 rfl ?_
      refine Si 6 rfl ?_
      refine Si 7 rfl ?_
      try simp only[Act.put,zA,zB,zC]
      refine Si 8 rfl ?_
      refine Si 9 rfl ?_
      refine Si 10 rfl ?_
      refine Si 11 rfl ?_
      try simp only[Act.put,zA,zB,zC]
      refine Si 12 rfl ?_
      refine Si 13 rfl ?_
      refine Si 14 rfl ?_
      refine Si 15 rfl ?_
      try simp only[Act.put,zA,zB,zC]
      refine Si 16 rfl ?_
      refine Si 17 rfl ?_
      refine Si 18 rfl ?_
      refine Ti 19 rfl ?_
      try simp only[Act.put,zA,zB,zC]
      refine Ti 20 rfl ?_
      try simp only[Act.put,zA,zB,zC]
      refine Dn ?_
      clear hSS
      go_wp2_with fail
      go_roundw
      case rel=>exact⟨j+1,by omega,by simp,by rw[HT.out];rfl,HX.out.drew⟩
      case measure=>simp[intOf];omega
    ·have hj':¬(j:Int)<(i:Int):=by omega
     obtain rfl:j=i:=by omega
     have HX:=hid hwx
     have hse:=HSe.out
     have hcs:cntU ps (j+1)=cntU ps j+if seenU ps j then 0 else 1:=rfl
     rw[hse]at hcs
     have HCs:=hid hcs
     clear hwx hse hcs
     generalize (ps.take j).any (fun r=>r.1 == q.1)=sn at *
     cases sn
     ·go_wp2_with fail
      go_roundw
      case rel=>exact⟨j+1,by omega,by simp,by rw[HCs.out];simp,HB.out.trans (HX.out.mono HB.out.size)⟩
      case measure=>simp[intOf];omega
     ·go_wp2_with fail
      go_roundw
      case rel=>exact⟨j+1,by omega,by simp,by rw[HCs.out];simp,HB.out.trans (HX.out.mono HB.out.size)⟩
      case measure=>simp[intOf];omega
  ·have hi':¬(i:Int)<(np:Int):=by omega
   obtain rfl:i=np:=by omega
   have HX:=hid hwr
   clear hwr
   go_wp2
   go_ret
   exact⟨rfl,HX.out⟩
open Go.RowKit Go.Deep
def lastU (y:Int) (ps:List Pu):Option ByteArray:=ps.foldl (fun o q=>if q.1=y then some q.2 else o) none
theorem lastU_snoc(y:Int)(ps:List Pu)(q:Pu):lastU y (ps++[q])=if q.1=y then some q.2 else lastU y ps:=by simp[lastU]
theorem snocInd{C:List α->Prop}(h0:C [])(h1:∀l x,C l->C (l++[x])):∀l,C l:=fun l=>by
 have:∀n,∀l:List α,l.length=n->C l:=by
  intro n
  induction n with
  | zero=>intro l hl;rw[List.length_eq_zero_iff.1 hl];exact h0
  | succ n ih=>
   intro l hl
   have hne:l≠[]:=by intro q;rw[q]at hl;simp at hl
   rw[<- List.dropLast_concat_getLast hne]
   exact h1 _ _ (ih _ (by simp[hl]))
 exact this _ l rfl
theorem layU_last(y:Int)(b:ByteArray)(ps:List Pu):layU y b ps=(lastU y ps).getD b:=by
 induction ps using snocInd with
 | h0=>rfl
 | h1 l x ih=>
  rw[layU_snoc,lastU_snoc,ih]
  split <;> rfl
theorem lastU_some(y:Int)(ps:List Pu):(lastU y ps).isSome=ps.any (fun q=>q.1 == y):=by
 induction ps using snocInd with
 | h0=>rfl
 | h1 l x ih=>
  rw[lastU_snoc,List.any_append]
  by_cases h:x.1=y
  ·simp[h]
  ·simp[h,ih]
structure Lku (nb fr bl:Nat) (A:Nat->Option (List Int)) (ps:List Pu):Prop where
 home:∀q∈ps,∃y:Nat,q.1=(y:Int)/\y<nb/\homeC nb fr bl (y:Int)=0
 last:∀y:Nat,lastU (y:Int) ps=(A y).map strOfNums
theorem Lku.nil(nb fr bl:Nat):Lku nb fr bl (fun _=>none) []:=⟨by simp,fun _=>rfl⟩
theorem Lku.put{A:Nat->Option (List Int)}{ps:List Pu}(h:Lku nb fr bl A ps)(hy:y<nb)(hh:homeC nb fr bl (y:Int)=0)(zs:List Int):Lku nb fr bl (putL A y zs) (ps++[((y:Int),strOfNums zs)]) where
 home:=fun q hq=>by
  rcases List.mem_append.1 hq with hq | hq
  ·exact h.home q hq
  ·obtain rfl:q=((y:Int),strOfNums zs):=by simpa using hq
   exact⟨y,rfl,hy,hh⟩
 last:=fun z=>by
  rw[lastU_snoc,h.last z]
  by_cases e:z=y
  ·subst e;simp[putL]
  ·have:¬(y:Int)=(z:Int):=by omega
   simp[putL,e,this]
theorem Lku.congr{A A':Nat->Option (List Int)}{ps:List Pu}(h:Lku nb fr bl A ps)(e:A'=A):Lku nb fr bl A' ps:=e ▸ h
theorem seenU_more(ps:List Pu)(q:Pu)(hi:i<ps.length):seenU (ps++[q]) i=seenU ps i:=by
 unfold seenU
 rw[List.getElem?_append_left hi,List.take_append_of_le_length (by omega)]
theorem cntU_more(ps:List Pu)(q:Pu)(hi:i<=ps.length):cntU (ps++[q]) i=cntU ps i:=by
 induction i with
 | zero=>rfl
 | succ i ih=>simp only[cntU];rw[ih (by omega),seenU_more ps q (by omega)]
theorem lenHomeKeys(A:Nat->Option (List Int))(nb:Nat):(homeKeys nb A).length=cntX A nb:=by
 induction nb with
 | zero=>rfl
 | succ n ih=>
  rw[homeKeys_succ,List.length_append,ih]
  simp only[cntX]
  split <;> simp
theorem cntX_congr{H':Type}{a:Nat->Option H}{b:Nat->Option H'}(h:∀y,(a y).isSome=(b y).isSome)(n:Nat):cntX a n=cntX b n:=by
 induction n with
 | zero=>rfl
 | succ n ih=>simp only[cntX];rw[ih,h]
theorem cntU_last{ps:List Pu}(h:∀q∈ps,∃y:Nat,q.1=(y:Int)/\y<nb):cntU ps ps.length=cntX (fun y:Nat=>lastU (y:Int) ps) nb:=by
 induction ps using snocInd with
 | h0=>
  show 0=_
  have:∀n,cntX (fun y:Nat=>lastU (y:Int) []) n=0:=fun n=>by
   induction n with
   | zero=>rfl
   | succ n ih=>simp only[cntX];rw[ih];rfl
  rw[this]
 | h1 l x ih=>
  obtain⟨y,hy,hyn⟩:=h x (by simp)
  have e1:cntX (fun z:Nat=>lastU (z:Int) (l++[x])) nb=cntX (putX (fun z:Nat=>lastU (z:Int) l) y x.2) nb:=cntX_congr (fun z=>by
   rw[lastU_snoc]
   unfold putX
   by_cases e:z=y
   ·have:x.1=(z:Int):=by rw[hy,e]
    simp[e,this]
   ·have:¬x.1=(z:Int):=by rw[hy];omega
    simp[e,this]) nb
  rw[e1,cnt_putX,<- ih (fun q hq=>h q (by simp[hq])),List.length_append]
  show cntU (l++[x]) l.length+_=_
  rw[cntU_more l x (Nat.le_refl _)]
  have e2:seenU (l++[x]) l.length=(lastU (y:Int) l).isSome:=by
   unfold seenU
   rw[lastU_some]
   simp[hy]
  rw[e2]
  cases e3:lastU (y:Int) l with
  | none=>simp[hyn]
  | some b=>simp
theorem Lku.count{A:Nat->Option (List Int)}{ps:List Pu}(h:Lku nb fr bl A ps):(homeKeys nb A).length=cntU ps ps.length:=by
 rw[lenHomeKeys,cntU_last (fun q hq=>by obtain⟨y,e,k,_⟩:=h.home q hq;exact⟨y,e,k⟩)]
 exact cntX_congr (fun y=>by rw[h.last y];cases A y <;> rfl) nb
theorem Lku.keys{A:Nat->Option (List Int)}{ps:List Pu}(h:Lku nb fr bl A ps):∀y,y∈homeKeys nb A->homeC nb fr bl (y:Int)=0:=fun y hy=>by
 obtain⟨_,hy⟩:=List.mem_filter.1 hy
 have e:=h.last y
 have:(lastU (y:Int) ps).isSome=true:=by rw[e];simpa using hy
 rw[lastU_some]at this
 obtain⟨q,hq,hqe⟩:=List.any_eq_true.1 this
 obtain⟨z,e1,_,e2⟩:=h.home q hq
 have:q.1=(y:Int):=by simpa using hqe
 have:z=y:=by omega
 exact this ▸ e2
structure Mq (nb fr bl:Nat) (a:Nat->Option Wr) (ms:List Mr) (val:Nat->List Int) (ps:List Pu) (ks:List Nat):Prop where
 now:Lku nb fr bl (LofA a val) ps
 len:ks.length=ms.length
 at_:∀(i k p:Nat) (b:Nat->Option Wr),ks[i]?=some k->ms[i]?=some (p,b)->k<=ps.length/\Lku nb fr bl (LofA b val) (ps.take k)
 mono:∀(i i' k k':Nat),ks[i]?=some k->ks[i']?=some k'->i<=i'->k<=k'
theorem Mq.nil(nb fr bl:Nat):Mq nb fr bl (fun _=>none) [] (fun _=>[]) [] []:=⟨Lku.nil nb fr bl,rfl,by simp,by simp⟩
theorem Mq.mark{a:Nat->Option Wr}{val:Nat->List Int}{ps:List Pu}{ks:List Nat}(h:Mq nb fr bl a ms val ps ks)(q:Nat):Mq nb fr bl a (ms++[(q,a)]) val ps (ks++[ps.length]) where
 now:=h.now
 len:=by simp[h.len]
 at_:=fun i k p b hk hm=>by
  by_cases hi:i<ks.length
  ·rw[List.getElem?_append_left hi]at hk
   rw[List.getElem?_append_left (by rw[<- h.len];exact hi)]at hm
   exact h.at_ i k p b hk hm
  ·have hi2:i=ks.length:=by
    have:=(List.getElem?_eq_some_iff.1 hk).1
    simp at this
    omega
   subst hi2
   rw[h.len]at hm
   simp at hk hm
   obtain⟨_,rfl⟩:=hm
   subst hk
   exact⟨Nat.le_refl _,by rw[List.take_length];exact h.now⟩
 mono:=fun i i' k k' hk hk' hi=>by
  have hl:=(List.getElem?_eq_some_iff.1 hk').1
  simp at hl
  by_cases h2:i'<ks.length
  ·rw[List.getElem?_append_left h2]at hk'
   rw[List.getElem?_append_left (by omega)]at hk
   exact h.mono i i' k k' hk hk' hi
  ·have hi2:i'=ks.length:=by omega
   subst hi2
   simp at hk'
   subst hk'
   by_cases h3:i<ks.length
   ·rw[List.getElem?_append_left h3]at hk
    obtain⟨⟨p,b⟩,hm⟩:∃r,ms[i]?=some r:=⟨_,List.getElem?_eq_getElem (by rw[<- h.len];exact h3)⟩
    exact (h.at_ i k p b hk hm).1
   ·have:i=ks.length:=by omega
    subst this
    simp at hk
    omega
theorem Mq.put{a a':Nat->Option Wr}{val val':Nat->List Int}{ps:List Pu}{ks:List Nat}(h:Mq nb fr bl a ms val ps ks)(hy:y<nb)(hh:homeC nb fr bl (y:Int)=0)(zs:List Int)(e1:LofA a' val'=putL (LofA a val) y zs)(e2:∀(i p:Nat) (b:Nat->Option Wr),ms[i]?=some (p,b)->LofA b val'=LofA b val):Mq nb fr bl a' ms val' (ps++[((y:Int),strOfNums zs)]) ks where
 now:=(h.now.put hy hh zs).congr e1
 len:=h.len
 at_:=fun i k p b hk hm=>by
  obtain⟨q1,q2⟩:=h.at_ i k p b hk hm
  refine⟨by simp;omega,?_⟩
  rw[List.take_append_of_le_length q1]
  exact q2.congr (e2 i p b hm)
 mono:=h.mono
theorem Mq.back{a:Nat->Option Wr}{val:Nat->List Int}{ps:List Pu}{ks:List Nat}(h:Mq nb fr bl a ms val ps ks){b:Nat->Option Wr}(hk:ks[i]?=some k)(hm:ms[i]?=some (p,b)):Mq nb fr bl b (ms.take (i+1)) val (ps.take k) (ks.take (i+1)) where
 now:=(h.at_ i k p b hk hm).2
 len:=by simp[h.len]
 at_:=fun i' k' p' b' hk' hm'=>by
  have hl:=(List.getElem?_eq_some_iff.1 hk').1
  simp at hl
  rw[List.getElem?_take_of_lt (by omega)]at hk' hm'
  obtain⟨q1,q2⟩:=h.at_ i' k' p' b' hk' hm'
  have q3:=h.mono i' i k' k hk' hk (by omega)
  refine⟨by simp;omega,?_⟩
  rw[List.take_take,Nat.min_eq_left q3]
  exact q2
 mono:=fun j j' k1 k2 hk1 hk2 hj=>by
  have hl:=(List.getElem?_eq_some_iff.1 hk2).1
  have hl1:=(List.getElem?_eq_some_iff.1 hk1).1
  simp at hl hl1
  rw[List.getElem?_take_of_lt (by omega)]at hk1 hk2
  exact h.mono j j' k1 k2 hk1 hk2 hj
end Go.Proofs.YthfojpcibnfmgaaGreat
