import Derived.Test.YthfojpcibnfmgaaGreatH34
import Derived.Test.YthfojpcibnfmgaaGreatH12
import Derived.Deep.AppendLies
import Derived.Deep.DeepCutAuto
set_option maxRecDepth 100000
set_option maxHeartbeats 16000000
namespace Go.Proofs.YthfojpcibnfmgaaGreat
variable {w:World}
variable {M bl fr k mc mg nb p pc pn rb:Nat}
variable {pa:Option Addr}
variable {dv fv mv ov pv:Value}
variable {xs xsm:List Value}
open Go.RowKit
theorem news1R(w:World)(u:Value)(t:TypeId):∀j y,[u][j]?=some y->(w.alloc (.cells #[u] t)).cell? ((⟨w.heap.size,0,none⟩:Addr).add j)=some y:=by
 intro j y hy
 exact World.news_of_block (w:=w.alloc (.cells #[u] t)) (B:=w.heap.size) (cs:=#[u]) (t:=t) (fr:=(0,0)) (alloc_new rfl _) j y (by simpa using hy)
theorem news2R(w:World)(u v:Value)(t:TypeId):∀j y,[u,v][j]?=some y->(w.alloc (.cells #[u,v] t)).cell? ((⟨w.heap.size,0,none⟩:Addr).add j)=some y:=by
 intro j y hy
 exact World.news_of_block (w:=w.alloc (.cells #[u,v] t)) (B:=w.heap.size) (cs:=#[u,v]) (t:=t) (fr:=(0,0)) (alloc_new rfl _) j y (by simpa using hy)
theorem info150:(Tryz.prog.info? 150).map (fun i=>(i.zero,i.size,i.bytes))=some (some (.agg #[.int .i64 0,.string ByteArray.empty]),2,24):=by kernel_rfl
theorem rmark_raw{g:Nat}(h:Rt5 w g rb (.slice pa pn pc) mv false){sure:Int}(hs:Rs5 w rb nb fr bl fv dv sure ov false)(hr:w.ownsRow 0 3 1 mv M xs)(hM:M<=1073741823) :
  Calls Tryz.prog 79 #[.pointer (some ⟨g,0,none⟩)] w fun e w'=>e=.returned (.tuple #[.int .i64 (M:Int),.int .i64 0])/\∃g' cap,Rt5 w' g rb (.slice pa pn pc) (.slice (some ⟨g',0,none⟩) (M+1) cap) false/\w'.ownsRow 0 3 1 (.slice (some ⟨g',0,none⟩) (M+1) cap) (M+1) (xs++[.int .i64 (pn:Int)])/\(mv.ownBlock=some g'\/w.heap.size<=g')/\But (fun k=>k=g\/mv.ownBlock=some k) w w':=by
 obtain⟨PO,hPO⟩:∃PO:Ending->World->Prop,PO=fun e w'=>e=.returned (.tuple #[.int .i64 (M:Int),.int .i64 0])/\∃g' cap,Rt5 w' g rb (.slice pa pn pc) (.slice (some ⟨g',0,none⟩) (M+1) cap) false/\w'.ownsRow 0 3 1 (.slice (some ⟨g',0,none⟩) (M+1) cap) (M+1) (xs++[.int .i64 (pn:Int)])/\(mv.ownBlock=some g'\/w.heap.size<=g')/\But (fun k=>k=g\/mv.ownBlock=some k) w w':=⟨_,rfl⟩
 rw[<- hPO]
 have HS:=hid (rstate_any h hs)
 have e0:stC false false=0:=rfl
 rw[e0]at HS
 clear e0 hs
 obtain⟨i3,hi3,hz3,hs3,hb3⟩:=info_parts info3
 have hxl:=h.lt
 have x1:=h.cell 1
 have x2:=h.cell 2
 simp at x1 x2
 obtain⟨wA,hwA⟩:∃wA,wA=w.alloc (.cells #[.int .i64 (pn:Int)] 3):=⟨_,rfl⟩
 have bA:Below w.heap.size w wA:=by rw[hwA];exact (Below.refl _ _).alloc (Nat.le_refl _) _
 have zA:wA.heap.size=w.heap.size+1:=by rw[hwA];simp
 have x1A:(w.alloc (.cells #[.int .i64 (pn:Int)] 3)).drew.cell? ⟨g,1,none⟩=some (.slice pa pn pc):=by rw[<- hwA];exact (bA.cell (p:=⟨g,1,none⟩) hxl).trans x1
 have x2A:(w.alloc (.cells #[.int .i64 (pn:Int)] 3)).drew.cell? ⟨g,2,none⟩=some mv:=by rw[<- hwA];exact (bA.cell (p:=⟨g,2,none⟩) hxl).trans x2
 have HRowA:Hid ((w.alloc (.cells #[.int .i64 (pn:Int)] 3)).drew.ownsRow 0 3 1 mv M xs):=by rw[<- hwA];exact owns_below hr bA.drew
 have HN:Hid (∀w6 g4 cap4,w6.ownsRow 0 3 1 (.slice (some ⟨g4,0,none⟩) (M+1) cap4) (M+1) (xs++[.int .i64 (pn:Int)])->(w.alloc (.cells #[.int .i64 (pn:Int)] 3)).drew.grownBy w6 mv.ownBlock->(mv.ownBlock=some g4\/g4=w.heap.size+1)->w6.cell? ⟨g,1,none⟩=some (.slice pa pn pc)/\w6.cell? ⟨g,2,none⟩=some mv/\w6.frozen? ⟨g,2,none⟩=false/\(w6.setCell ⟨g,2,none⟩ (.slice (some ⟨g4,0,none⟩) (M+1) cap4)).cell? ⟨g,1,none⟩=some (.slice pa pn pc)/\∃g' cap,(w6.setCell ⟨g,2,none⟩ (.slice (some ⟨g4,0,none⟩) (M+1) cap4)).cell? ⟨g,2,none⟩=some (.slice (some ⟨g',0,none⟩) (M+1) cap)/\PO (.returned (.tuple #[.int .i64 (M:Int),.int .i64 0])) (w6.setCell ⟨g,2,none⟩ (.slice (some ⟨g4,0,none⟩) (M+1) cap4))):=fun w6 g4 cap4 ho hg hl=>by
  rw[<- hwA]at hg
  have bg:But (fun k=>mv.ownBlock=some k) wA w6:=(But.refl _ wA).drew.of_grown hg (fun k e _=>e)
  have sg:=bg.size
  have hxn:¬mv.ownBlock=some g:=fun e=>by
   obtain⟨cur,hcur⟩:=rowKind hr e
   exact kind_ne hcur h (by decide) rfl
  have hx6:Rt5 w6 g rb (.slice pa pn pc) mv false:=h.keep ((bg.block g (by omega) hxn).trans (bA.block g hxl))
  have hs6:=hx6.set2 (.slice (some ⟨g4,0,none⟩) (M+1) cap4)
  have hg4x:g4≠g:=by
   rcases hl with e | e
   ·exact fun q=>hxn (q ▸ e)
   ·omega
  have bs:But (fun k=>k=g) w6 (w6.setCell ⟨g,2,none⟩ (.slice (some ⟨g4,0,none⟩) (M+1) cap4)):=(But.refl (fun k=>k=g) w6).setCell (p:=⟨g,2,none⟩) rfl _
  have c1:=hs6.cell 1
  have c2:=hs6.cell 2
  have d1:=hx6.cell 1
  have d2:=hx6.cell 2
  simp at c1 c2 d1 d2
  refine⟨d1,d2,hx6.frozen 2,c1,g4,cap4,c2,?_⟩
  rw[hPO]
  refine⟨rfl,g4,cap4,hs6,owns_keep ho (fun k e=>?_),hl.imp id (fun e=>by omega),?_⟩
  ·have:g4=k:=by simpa [Value.ownBlock] using e
   subst this
   exact bs.block g4 (World.ownsRow.lt ho g4 rfl).2 hg4x
  ·exact (((But.of_below bA (X:=fun k=>k=g\/mv.ownBlock=some k)).comp bg (fun _ _ q=>.inr q))).comp bs (fun _ _ q=>.inl q)
 clear hwA bA zA hPO h hr
 go_enter Tryz.func79,Tryz.ntmps79
 go_wp2_with fail
 refine Calls.mono HS.out ?_
 rintro e w9 ⟨rfl,hw9⟩
 rw[hw9]
 clear hw9 HS
 go_upto_region 4 with fail
 go_cut [2] (fun s2 wx=>∃g' cap,s2=.int .i64 0/\wx.cell? ⟨g,2,none⟩=some (.slice (some ⟨g',0,none⟩) (M+1) cap)/\PO (.returned (.tuple #[.int .i64 (M:Int),.int .i64 0])) wx)
 case first=>
  refine wp_region_noPanic ?_
  refine wp_region_held_drew (S:=fun w'=>w'.cell? ⟨g,1,none⟩=some (.slice pa pn pc)) (by kernel_rfl) x1 (fun hSS=>?_)
  refine tk 0 (some 10) (.move (.tmp 0)) 65 none hSS ?_
  refine tk 1 (some 11) (.move (.tmp 0)) 65 none hSS ?_
  refine tk 2 (some 12) (.nilCheck (.tmp 11)) 0 none hSS ?_
  refine tk 3 (some 13) (.fieldAddr 115 (.tmp 12) 2) 0 none hSS ?_
  try simp only[Act.put,zA,zB,zC]
  refine tk 5 (some 15) (.move (.tmp 0)) 65 none hSS ?_
  refine tk 6 (some 16) (.nilCheck (.tmp 15)) 0 none hSS ?_
  refine tk 7 (some 17) (.fieldAddr 115 (.tmp 16) 1) 0 none hSS ?_
  refine tk 8 (some 18) (.load 60 (.tmp 17)) 60 none hSS ?_
  try simp only[Act.put,zA,zB,zC]
  refine tk 9 (some 19) (.call { callee:=.builtin .len,args:=#[.tmp 18],argTypes:=#[60] }) 3 none hSS ?_
  try simp only[Act.put,zA,zB,zC]
  refine wpAnyH_ready (rs:=[4,10]) (by kernel_rfl) (by simp) (AllReadyH.cons (o:=({ dst:=some 14,op:=Op.load 37 (Operand.tmp 13),type:=37,pos:=_,after:=_,guard:=none }:Oper)) rfl (fun K9 hK9=>?_) (AllReadyH.cons (o:=({ dst:=some 20,op:=Op.buildSlice 37 1 #[(0,Operand.tmp 19)],type:=37,pos:=_,after:=_,guard:=none }:Oper)) rfl (fun K9 hK9=>?_) AllReadyH.nil))
  ·go_simp
   refine hK9.out _ _ hSS (fun hSS=>?_)
   clear hK9 K9
   try simp only[Act.put,zA,zB,zC]
   refine wpAnyH_ready (rs:=[10]) (by kernel_rfl) (by simp) (AllReadyH.cons (o:=({ dst:=some 20,op:=Op.buildSlice 37 1 #[(0,Operand.tmp 19)],type:=37,pos:=_,after:=_,guard:=none }:Oper)) rfl (fun K9 hK9=>?_) AllReadyH.nil)
   go_simp
   refine hK9.out _ _ x1A (fun hSS=>?_)
   clear hK9 K9
   try simp only[Act.put,zA,zB,zC]
   refine wpAnyH_ready (rs:=[11]) (by kernel_rfl) (by simp) (AllReadyH.cons (o:=({ dst:=some 21,op:=Op.call { callee:=Callee.builtin Builtin.append,args:=#[Operand.tmp 14,Operand.tmp 20],argTypes:=#[37,37] },type:=37,pos:=_,after:=_,guard:=none }:Oper)) rfl (fun K9 hK9=>?_) AllReadyH.nil)
   refine step_append_lies _ (by rfl) _ _ _ (by rfl) 0 3 i3 (.int .i64 0) 1 8 Tryz.underlying37 hi3 hz3 hs3 hb3 rfl (by decide) _ M _ (by rfl) (by exact HRowA.out) ⟨w.heap.size,0,none⟩ 1 1 [.int .i64 (pn:Int)] (by rfl) (by rfl) (by exact news1R w _ _) (by intro u hu;simp at hu;subst hu;rfl) (by decide) (by unfold maxLen;omega) (by omega) (by simp) (w.heap.size+1) (by simp) ?_
   intro g4 cap4 w6 ho4 hg4 hlie4 _
   obtain⟨y2,y3,yf,yS,hF⟩:=HN.out w6 g4 cap4 ho4 hg4 hlie4
   have HF:=hid hF
   clear ho4 hg4 hlie4 hF HN
   dsimp [Act.put]
   refine hK9.out _ _ y2 (fun hSS=>?_)
   clear hK9 K9
   try simp only[List.setIfInBounds_toArray,List.set_cons_zero,List.set_cons_succ]
   refine tk 12 (some 22) (.nilCheck (.tmp 10)) 0 none hSS ?_
   refine tk 13 (some 23) (.fieldAddr 115 (.tmp 22) 2) 0 none hSS ?_
   try simp only[Act.put,zA,zB,zC]
   refine wpAnyH_ready (rs:=[14]) (by kernel_rfl) (by simp) (AllReadyH.cons (o:=({ dst:=none,op:=Op.store 37 (Operand.tmp 23) (Operand.tmp 21),type:=0,pos:=_,after:=_,guard:=none }:Oper)) rfl (fun K9 hK9=>?_) AllReadyH.nil)
   go_simp
   refine hK9.out _ _ yS (fun hSS=>?_)
   clear hK9 K9
   try simp only[Act.put,zA,zB,zC]
   refine wpAnyH_done (by kernel_rfl) (NoPanic.normal ?_) _
   clear hSS
   go_wp2_with fail
   go_meet
   obtain⟨g9,cap9,hF1⟩:=HF.out
   exact⟨g9,cap9,rfl,hF1⟩
  ·go_simp
   refine hK9.out _ _ x1A (fun hSS=>?_)
   clear hK9 K9
   try simp only[Act.put,zA,zB,zC]
   refine wpAnyH_ready (rs:=[4]) (by kernel_rfl) (by simp) (AllReadyH.cons (o:=({ dst:=some 14,op:=Op.load 37 (Operand.tmp 13),type:=37,pos:=_,after:=_,guard:=none }:Oper)) rfl (fun K9 hK9=>?_) AllReadyH.nil)
   go_simp
   refine hK9.out _ _ hSS (fun hSS=>?_)
   clear hK9 K9
   try simp only[Act.put,zA,zB,zC]
   refine wpAnyH_ready (rs:=[11]) (by kernel_rfl) (by simp) (AllReadyH.cons (o:=({ dst:=some 21,op:=Op.call { callee:=Callee.builtin Builtin.append,args:=#[Operand.tmp 14,Operand.tmp 20],argTypes:=#[37,37] },type:=37,pos:=_,after:=_,guard:=none }:Oper)) rfl (fun K9 hK9=>?_) AllReadyH.nil)
   refine step_append_lies _ (by rfl) _ _ _ (by rfl) 0 3 i3 (.int .i64 0) 1 8 Tryz.underlying37 hi3 hz3 hs3 hb3 rfl (by decide) _ M _ (by rfl) (by exact HRowA.out) ⟨w.heap.size,0,none⟩ 1 1 [.int .i64 (pn:Int)] (by rfl) (by rfl) (by exact news1R w _ _) (by intro u hu;simp at hu;subst hu;rfl) (by decide) (by unfold maxLen;omega) (by omega) (by simp) (w.heap.size+1) (by simp) ?_
   intro g4 cap4 w6 ho4 hg4 hlie4 _
   obtain⟨y2,y3,yf,yS,hF⟩:=HN.out w6 g4 cap4 ho4 hg4 hlie4
   have HF:=hid hF
   clear ho4 hg4 hlie4 hF HN
   dsimp [Act.put]
   refine hK9.out _ _ y2 (fun hSS=>?_)
   clear hK9 K9
   try simp only[List.setIfInBounds_toArray,List.set_cons_zero,List.set_cons_succ]
   refine tk 12 (some 22) (.nilCheck (.tmp 10)) 0 none hSS ?_
   refine tk 13 (some 23) (.fieldAddr 115 (.tmp 22) 2) 0 none hSS ?_
   try simp only[Act.put,zA,zB,zC]
   refine wpAnyH_ready (rs:=[14]) (by kernel_rfl) (by simp) (AllReadyH.cons (o:=({ dst:=none,op:=Op.store 37 (Operand.tmp 23) (Operand.tmp 21),type:=0,pos:=_,after:=_,guard:=none }:Oper)) rfl (fun K9 hK9=>?_) AllReadyH.nil)
   go_simp
   refine hK9.out _ _ yS (fun hSS=>?_)
   clear hK9 K9
   try simp only[Act.put,zA,zB,zC]
   refine wpAnyH_done (by kernel_rfl) (NoPanic.normal ?_) _
   clear hSS
   go_wp2_with fail
   go_meet
   obtain⟨g9,cap9,hF1⟩:=HF.out
   exact⟨g9,cap9,rfl,hF1⟩
 case rest=>
 rename World=>wq
 obtain⟨g',cap,rfl,k3,hF⟩:=hcut
 have FIN:=hid hF
 clear hF HN HRowA x1 x2 x1A x2A
 go_wp2_with fail
 exact FIN.out
open Go.RowKit
theorem rwrite_raw{g:Nat}(h:Rt5 w g rb pv mv false){sure:Int}(hs:Rs5 w rb nb fr bl fv dv sure ov false)(hr:w.ownsRow 0 150 2 pv M xs)(hM:M<=1073741823)(y:Int)(HA:Calls Tryz.prog 75 #[.pointer (some ⟨rb,0,none⟩),.int .i64 y] w fun e w'=>e=.returned (.int .i64 0)/\Below w.heap.size w w')(ad:Addr)(cd:Nat)(S:ByteArray)(hC:∀w',But (fun k=>k=g\/pv.ownBlock=some k) w w'->(convert 40 9 (.slice (some ad) 512 cd)).run Tryz.prog w'=.ok (.string S) w') :
  Calls Tryz.prog 119 #[.pointer (some ⟨g,0,none⟩),.int .i64 y,.slice (some ad) 512 cd] w fun e w'=>e=.returned (.int .i64 0)/\∃g' cap,Rt5 w' g rb (.slice (some ⟨g',0,none⟩) (M+1) cap) mv false/\w'.ownsRow 0 150 2 (.slice (some ⟨g',0,none⟩) (M+1) cap) (M+1) (xs++[.int .i64 y,.string S])/\(pv.ownBlock=some g'\/w.heap.size<=g')/\But (fun k=>k=g\/pv.ownBlock=some k) w w':=by
 have HS:=hid (rstate_any h hs)
 have e0:stC false false=0:=rfl
 rw[e0]at HS
 clear e0 hs
 obtain⟨PO,hPO⟩:∃PO:Ending->World->Prop,PO=fun e w'=>e=.returned (.int .i64 0)/\∃g' cap,Rt5 w' g rb (.slice (some ⟨g',0,none⟩) (M+1) cap) mv false/\w'.ownsRow 0 150 2 (.slice (some ⟨g',0,none⟩) (M+1) cap) (M+1) (xs++[.int .i64 y,.string S])/\(pv.ownBlock=some g'\/w.heap.size<=g')/\But (fun k=>k=g\/pv.ownBlock=some k) w w':=⟨_,rfl⟩
 rw[<- hPO]
 have c0:=h.cell 0
 simp at c0
 have HA:=hid HA
 have HW:Hid (∀w2,Below w.heap.size w w2->Rt5 w2 g rb pv mv false/\w2.ownsRow 0 150 2 pv M xs/\(∀w',But (fun k=>k=g\/pv.ownBlock=some k) w2 w'->(convert 40 9 (.slice (some ad) 512 cd)).run Tryz.prog w'=.ok (.string S) w')/\∀e w',(e=.returned (.int .i64 0)/\∃g' cap,Rt5 w' g rb (.slice (some ⟨g',0,none⟩) (M+1) cap) mv false/\w'.ownsRow 0 150 2 (.slice (some ⟨g',0,none⟩) (M+1) cap) (M+1) (xs++[.int .i64 y,.string S])/\(pv.ownBlock=some g'\/w2.heap.size<=g')/\But (fun k=>k=g\/pv.ownBlock=some k) w2 w')->PO e w'):=fun w2 b=>by
  refine⟨h.keep (b.block g h.lt),owns_below hr b,fun w' q=>hC w' ((But.of_below b).trans q),fun e w' q=>?_⟩
  rw[hPO]
  obtain⟨q1,g',cap,q2,q3,q4,q5⟩:=q
  exact⟨q1,g',cap,q2,q3,q4.imp id (fun r=>Nat.le_trans b.size r),(But.of_below b).trans q5⟩
 obtain⟨i5,hi5,hz5,hs5,hb5⟩:=info_parts info150
 clear hPO h hr hC
 go_enter Tryz.func119,Tryz.ntmps119
 go_wp2_with fail
 refine Calls.mono HS.out ?_
 rintro e w9 ⟨rfl,hw9⟩
 rw[hw9]
 clear hw9 HS
 go_wp2_with fail
 refine Calls.mono HA.out ?_
 rintro e w8 ⟨rfl,b8⟩
 obtain⟨h,hr,hC,hP⟩:=HW.out w8 b8
 clear b8 HW HA c0
 have hxl:=h.lt
 have x1:=h.cell 1
 simp at x1
 have x0:=hC w8 (But.refl _ w8)
 have xd:(convert 40 9 (.slice (some ad) 512 cd)).run Tryz.prog w8.drew=.ok (.string S) w8.drew:=hC w8.drew (But.refl _ w8).drew
 obtain⟨wA,hwA⟩:∃wA,wA=w8.alloc (.cells #[.int .i64 y,.string S] 150):=⟨_,rfl⟩
 have bA:Below w8.heap.size w8 wA:=by rw[hwA];exact (Below.refl _ _).alloc (Nat.le_refl _) _
 have zA:wA.heap.size=w8.heap.size+1:=by rw[hwA];simp
 have xA:(convert 40 9 (.slice (some ad) 512 cd)).run Tryz.prog (w8.alloc (.cells #[.int .i64 y,.string S] 150)).drew=.ok (.string S) (w8.alloc (.cells #[.int .i64 y,.string S] 150)).drew:=by rw[<- hwA];exact hC _ (But.of_below bA).drew
 have x1A:(w8.alloc (.cells #[.int .i64 y,.string S] 150)).drew.cell? ⟨g,1,none⟩=some pv:=by rw[<- hwA];exact (bA.cell (p:=⟨g,1,none⟩) hxl).trans x1
 have HRowA:Hid ((w8.alloc (.cells #[.int .i64 y,.string S] 150)).drew.ownsRow 0 150 2 pv M xs):=by rw[<- hwA];exact owns_below hr bA.drew
 have HN:Hid (∀w6 g4 cap4,w6.ownsRow 0 150 2 (.slice (some ⟨g4,0,none⟩) (M+1) cap4) (M+1) (xs++[.int .i64 y,.string S])->(w8.alloc (.cells #[.int .i64 y,.string S] 150)).drew.grownBy w6 pv.ownBlock->(pv.ownBlock=some g4\/g4=w8.heap.size+1)->(convert 40 9 (.slice (some ad) 512 cd)).run Tryz.prog w6=.ok (.string S) w6/\w6.cell? ⟨g,1,none⟩=some pv/\w6.frozen? ⟨g,1,none⟩=false/\(convert 40 9 (.slice (some ad) 512 cd)).run Tryz.prog (w6.setCell ⟨g,1,none⟩ (.slice (some ⟨g4,0,none⟩) (M+1) cap4))=.ok (.string S) (w6.setCell ⟨g,1,none⟩ (.slice (some ⟨g4,0,none⟩) (M+1) cap4))/\PO (.returned (.int .i64 0)) (w6.setCell ⟨g,1,none⟩ (.slice (some ⟨g4,0,none⟩) (M+1) cap4))):=fun w6 g4 cap4 ho hg hl=>by
  rw[<- hwA]at hg
  have bg:But (fun k=>pv.ownBlock=some k) wA w6:=(But.refl _ wA).drew.of_grown hg (fun k e _=>e)
  have sg:=bg.size
  have hxn:¬pv.ownBlock=some g:=fun e=>by
   obtain⟨cur,hcur⟩:=rowKind hr e
   exact kind_ne hcur h (by decide) rfl
  have hx6:Rt5 w6 g rb pv mv false:=h.keep ((bg.block g (by omega) hxn).trans (bA.block g hxl))
  have hs6:=hx6.set1 (.slice (some ⟨g4,0,none⟩) (M+1) cap4)
  have hg4x:g4≠g:=by
   rcases hl with e | e
   ·exact fun q=>hxn (q ▸ e)
   ·omega
  have bs:But (fun k=>k=g) w6 (w6.setCell ⟨g,1,none⟩ (.slice (some ⟨g4,0,none⟩) (M+1) cap4)):=(But.refl (fun k=>k=g) w6).setCell (p:=⟨g,1,none⟩) rfl _
  have bw6:But (fun k=>k=g\/pv.ownBlock=some k) w8 w6:=(But.of_below bA (X:=fun k=>k=g\/pv.ownBlock=some k)).comp bg (fun _ _ q=>.inr q)
  have bws:=bw6.comp bs (fun _ _ q=>.inl q)
  have d1:=hx6.cell 1
  simp at d1
  refine⟨hC _ bw6,d1,hx6.frozen 1,hC _ bws,hP _ _ ⟨rfl,g4,cap4,hs6,owns_keep ho (fun k e=>?_),hl.imp id (fun e=>by omega),bws⟩⟩
  have:g4=k:=by simpa [Value.ownBlock] using e
  subst this
  exact bs.block g4 (World.ownsRow.lt ho g4 rfl).2 hg4x
 clear hwA bA zA hP h hr hC
 go_upto_region 9 with fail
 go_cut [6] (fun s6 wx=>s6=.int .i64 0/\PO (.returned (.int .i64 0)) wx)
 case first=>
  refine wp_region_noPanic ?_
  refine wp_region_held_drew (S:=fun w'=>(convert 40 9 (.slice (some ad) 512 cd)).run Tryz.prog w'=.ok (.string S) w') (by kernel_rfl) xd (fun hSS=>?_)
  refine tk 0 (some 25) (.move (.tmp 0)) 65 none hSS ?_
  refine tk 1 (some 26) (.move (.tmp 0)) 65 none hSS ?_
  refine tk 2 (some 27) (.nilCheck (.tmp 26)) 0 none hSS ?_
  refine tk 3 (some 28) (.fieldAddr 115 (.tmp 27) 1) 0 none hSS ?_
  try simp only[Act.put,zA,zB,zC]
  refine tk 5 (some 30) (.move (.tmp 1)) 3 none hSS ?_
  refine tk 6 (some 31) (.move (.tmp 2)) 40 none hSS ?_
  refine tk 7 (some 32) (.convert 40 9 (.tmp 31)) 9 none hSS ?_
  refine tk 8 (some 33) (.build 150 #[(0,.tmp 30),(1,.tmp 32)]) 150 none hSS ?_
  try simp only[Act.put,zA,zB,zC]
  refine wpAnyH_ready (rs:=[4,9]) (by kernel_rfl) (by simp) (AllReadyH.cons (o:=({ dst:=some 29,op:=Op.load 60 (Operand.tmp 28),type:=60,pos:=_,after:=_,guard:=none }:Oper)) rfl (fun K9 hK9=>?_) (AllReadyH.cons (o:=({ dst:=some 34,op:=Op.buildSlice 60 1 #[(0,Operand.tmp 33)],type:=60,pos:=_,after:=_,guard:=none }:Oper)) rfl (fun K9 hK9=>?_) AllReadyH.nil))
  ·go_simp
   refine hK9.out _ _ hSS (fun hSS=>?_)
   clear hK9 K9
   try simp only[Act.put,zA,zB,zC]
   refine wpAnyH_ready (rs:=[9]) (by kernel_rfl) (by simp) (AllReadyH.cons (o:=({ dst:=some 34,op:=Op.buildSlice 60 1 #[(0,Operand.tmp 33)],type:=60,pos:=_,after:=_,guard:=none }:Oper)) rfl (fun K9 hK9=>?_) AllReadyH.nil)
   go_simp
   refine hK9.out _ _ xA (fun hSS=>?_)
   clear hK9 K9
   try simp only[Act.put,zA,zB,zC]
   refine wpAnyH_ready (rs:=[10]) (by kernel_rfl) (by simp) (AllReadyH.cons (o:=({ dst:=some 35,op:=Op.call { callee:=Callee.builtin Builtin.append,args:=#[Operand.tmp 29,Operand.tmp 34],argTypes:=#[60,60] },type:=60,pos:=_,after:=_,guard:=none }:Oper)) rfl (fun K9 hK9=>?_) AllReadyH.nil)
   refine step_append_lies _ (by rfl) _ _ _ (by rfl) 0 150 i5 (.agg #[.int .i64 0,.string ByteArray.empty]) 2 24 Tryz.underlying60 hi5 hz5 hs5 hb5 rfl (by decide) _ M _ (by rfl) (by exact HRowA.out) ⟨w8.heap.size,0,none⟩ 1 1 [.int .i64 y,.string S] (by rfl) (by rfl) (by exact news2R w8 _ _ _) (by intro u hu;simp at hu;rcases hu with rfl | rfl <;> rfl) (by decide) (by unfold maxLen;omega) (by omega) (by simp) (w8.heap.size+1) (by simp) ?_
   intro g4 cap4 w6 ho4 hg4 hlie4 _
   obtain⟨y2,y3,yf,yS,hF⟩:=HN.out w6 g4 cap4 ho4 hg4 hlie4
   have HF:=hid hF
   clear ho4 hg4 hlie4 hF HN
   dsimp [Act.put]
   refine hK9.out _ _ y2 (fun hSS=>?_)
   clear hK9 K9
   try simp only[List.setIfInBounds_toArray,List.set_cons_zero,List.set_cons_succ]
   refine tk 11 (some 36) (.nilCheck (.tmp 25)) 0 none hSS ?_
   try simp only[Act.put,zA,zB,zC]
   refine tk 12 (some 37) (.fieldAddr 115 (.tmp 36) 1) 0 none hSS ?_
   try simp only[Act.put,zA,zB,zC]
   refine wpAnyH_ready (rs:=[13]) (by kernel_rfl) (by simp) (AllReadyH.cons (o:=({ dst:=none,op:=Op.store 60 (Operand.tmp 37) (Operand.tmp 35),type:=0,pos:=_,after:=_,guard:=none }:Oper)) rfl (fun K9 hK9=>?_) AllReadyH.nil)
   go_simp
   refine hK9.out _ _ yS (fun hSS=>?_)
   clear hK9 K9
   try simp only[Act.put,zA,zB,zC]
   refine wpAnyH_done (by kernel_rfl) (NoPanic.normal ?_) _
   clear hSS
   go_wp2_with fail
   go_meet
   have hF1:=HF.out
   exact⟨rfl,hF1⟩
  ·go_simp
   refine hK9.out _ _ xA (fun hSS=>?_)
   clear hK9 K9
   try simp only[Act.put,zA,zB,zC]
   refine wpAnyH_ready (rs:=[4]) (by kernel_rfl) (by simp) (AllReadyH.cons (o:=({ dst:=some 29,op:=Op.load 60 (Operand.tmp 28),type:=60,pos:=_,after:=_,guard:=none }:Oper)) rfl (fun K9 hK9=>?_) AllReadyH.nil)
   go_simp
   refine hK9.out _ _ hSS (fun hSS=>?_)
   clear hK9 K9
   try simp only[Act.put,zA,zB,zC]
   refine wpAnyH_ready (rs:=[10]) (by kernel_rfl) (by simp) (AllReadyH.cons (o:=({ dst:=some 35,op:=Op.call { callee:=Callee.builtin Builtin.append,args:=#[Operand.tmp 29,Operand.tmp 34],argTypes:=#[60,60] },type:=60,pos:=_,after:=_,guard:=none }:Oper)) rfl (fun K9 hK9=>?_) AllReadyH.nil)
   refine step_append_lies _ (by rfl) _ _ _ (by rfl) 0 150 i5 (.agg #[.int .i64 0,.string ByteArray.empty]) 2 24 Tryz.underlying60 hi5 hz5 hs5 hb5 rfl (by decide) _ M _ (by rfl) (by exact HRowA.out) ⟨w8.heap.size,0,none⟩ 1 1 [.int .i64 y,.string S] (by rfl) (by rfl) (by exact news2R w8 _ _ _) (by intro u hu;simp at hu;rcases hu with rfl | rfl <;> rfl) (by decide) (by unfold maxLen;omega) (by omega) (by simp) (w8.heap.size+1) (by simp) ?_
   intro g4 cap4 w6 ho4 hg4 hlie4 _
   obtain⟨y2,y3,yf,yS,hF⟩:=HN.out w6 g4 cap4 ho4 hg4 hlie4
   have HF:=hid hF
   clear ho4 hg4 hlie4 hF HN
   dsimp [Act.put]
   refine hK9.out _ _ y2 (fun hSS=>?_)
   clear hK9 K9
   try simp only[List.setIfInBounds_toArray,List.set_cons_zero,List.set_cons_succ]
   refine tk 11 (some 36) (.nilCheck (.tmp 25)) 0 none hSS ?_
   refine tk 12 (some 37) (.fieldAddr 115 (.tmp 36) 1) 0 none hSS ?_
   try simp only[Act.put,zA,zB,zC]
   refine wpAnyH_ready (rs:=[13]) (by kernel_rfl) (by simp) (AllReadyH.cons (o:=({ dst:=none,op:=Op.store 60 (Operand.tmp 37) (Operand.tmp 35),type:=0,pos:=_,after:=_,guard:=none }:Oper)) rfl (fun K9 hK9=>?_) AllReadyH.nil)
   go_simp
   refine hK9.out _ _ yS (fun hSS=>?_)
   clear hK9 K9
   try simp only[Act.put,zA,zB,zC]
   refine wpAnyH_done (by kernel_rfl) (NoPanic.normal ?_) _
   clear hSS
   go_wp2_with fail
   go_meet
   have hF1:=HF.out
   exact⟨rfl,hF1⟩
 case rest=>
 rename World=>wq
 obtain⟨rfl,hF⟩:=hcut
 have FIN:=hid hF
 clear hF HN HRowA x1 x0 xd x1A xA
 go_wp2_with fail
 exact FIN.out
open Go.RowKit
theorem rmark_no{v:Value}{code:Int}(HS:Calls Tryz.prog 84 #[v] w fun e w'=>e=.returned (.int .i64 code)/\w'=w)(hc:(code != 0)=true):Calls Tryz.prog 79 #[v] w fun e w'=>e=.returned (.tuple #[.int .i64 0,.int .i64 code])/\w'=w:=by
 have HS:=hid HS
 go_enter Tryz.func79,Tryz.ntmps79
 go_wp2_with fail
 refine Calls.mono HS.out ?_
 rintro e w9 ⟨rfl,hw9⟩
 rw[hw9]
 clear hw9 HS
 go_wp2
 go_ret2
 exact⟨rfl,rfl⟩
theorem rback_no{v:Value}{code:Int}(HS:Calls Tryz.prog 84 #[v] w fun e w'=>e=.returned (.int .i64 code)/\w'=w)(hc:(code != 0)=true)(k:Int):Calls Tryz.prog 80 #[v,.int .i64 k] w fun e w'=>e=.returned (.int .i64 code)/\w'=w:=by
 have HS:=hid HS
 go_enter Tryz.func80,Tryz.ntmps80
 go_wp2_with fail
 refine Calls.mono HS.out ?_
 rintro e w9 ⟨rfl,hw9⟩
 rw[hw9]
 clear hw9 HS
 go_wp2
 go_ret
 exact⟨rfl,rfl⟩
theorem rcommit_no{v:Value}{code:Int}(HS:Calls Tryz.prog 84 #[v] w fun e w'=>e=.returned (.int .i64 code)/\w'=w)(hc:(code != 0)=true):Calls Tryz.prog 81 #[v] w fun e w'=>e=.returned (.int .i64 code)/\w'=w:=by
 have HS:=hid HS
 go_enter Tryz.func81,Tryz.ntmps81
 go_wp2_with fail
 refine Calls.mono HS.out ?_
 rintro e w9 ⟨rfl,hw9⟩
 rw[hw9]
 clear hw9 HS
 go_wp2
 go_ret
 exact⟨rfl,rfl⟩
theorem rwrite_no{v:Value}{code:Int}(HS:Calls Tryz.prog 84 #[v] w fun e w'=>e=.returned (.int .i64 code)/\w'=w)(hc:(code != 0)=true)(y:Int)(dv:Value):Calls Tryz.prog 119 #[v,.int .i64 y,dv] w fun e w'=>e=.returned (.int .i64 code)/\w'=w:=by
 have HS:=hid HS
 go_enter Tryz.func119,Tryz.ntmps119
 go_wp2_with fail
 refine Calls.mono HS.out ?_
 rintro e w9 ⟨rfl,hw9⟩
 rw[hw9]
 clear hw9 HS
 go_wp2
 go_ret
 exact⟨rfl,rfl⟩
theorem rwrite_far{g:Nat}(h:Rt5 w g rb pv mv false){sure:Int}(hs:Rs5 w rb nb fr bl fv dv sure ov false)(y:Int)(HA:Calls Tryz.prog 75 #[.pointer (some ⟨rb,0,none⟩),.int .i64 y] w fun e w'=>e=.returned (.int .i64 42)/\Below w.heap.size w w')(xv:Value):Calls Tryz.prog 119 #[.pointer (some ⟨g,0,none⟩),.int .i64 y,xv] w fun e w'=>e=.returned (.int .i64 42)/\Below w.heap.size w w':=by
 have HS:=hid (rstate_any h hs)
 have e0:stC false false=0:=rfl
 rw[e0]at HS
 clear e0
 have c0:=h.cell 0
 simp at c0
 have HA:=hid HA
 clear h hs
 go_enter Tryz.func119,Tryz.ntmps119
 go_wp2_with fail
 refine Calls.mono HS.out ?_
 rintro e w9 ⟨rfl,hw9⟩
 rw[hw9]
 clear hw9 HS
 go_wp2_with fail
 refine Calls.mono HA.out ?_
 rintro e w8 ⟨rfl,b8⟩
 have B8:=hid b8
 clear b8 HA
 go_wp2
 go_ret
 exact⟨rfl,B8.out⟩
theorem rwrite_len{g:Nat}(h:Rt5 w g rb pv mv false){sure:Int}(hs:Rs5 w rb nb fr bl fv dv sure ov false)(y:Int)(HA:Calls Tryz.prog 75 #[.pointer (some ⟨rb,0,none⟩),.int .i64 y] w fun e w'=>e=.returned (.int .i64 0)/\Below w.heap.size w w')(xa:Option Addr)(n xc:Nat)(hn:n≠512):Calls Tryz.prog 119 #[.pointer (some ⟨g,0,none⟩),.int .i64 y,.slice xa n xc] w fun e w'=>e=.returned (.int .i64 43)/\Below w.heap.size w w':=by
 have HS:=hid (rstate_any h hs)
 have e0:stC false false=0:=rfl
 rw[e0]at HS
 clear e0
 have c0:=h.cell 0
 simp at c0
 have HA:=hid HA
 have hq:((n:Int) != 512)=true:=by simp;omega
 clear h hs hn
 go_enter Tryz.func119,Tryz.ntmps119
 go_wp2_with fail
 refine Calls.mono HS.out ?_
 rintro e w9 ⟨rfl,hw9⟩
 rw[hw9]
 clear hw9 HS
 go_wp2_with fail
 refine Calls.mono HA.out ?_
 rintro e w8 ⟨rfl,b8⟩
 have B8:=hid b8
 clear b8 HA
 go_wp2
 go_ret
 exact⟨rfl,B8.out⟩
theorem rback_far{g:Nat}{ma:Option Addr}(h:Rt5 w g rb pv (.slice ma M mc) false){sure:Int}(hs:Rs5 w rb nb fr bl fv dv sure ov false)(k:Int)(hk:k<0\/(M:Int)<=k):Calls Tryz.prog 80 #[.pointer (some ⟨g,0,none⟩),.int .i64 k] w fun e w'=>e=.returned (.int .i64 52)/\w'=w:=by
 have HS:=hid (rstate_any h hs)
 have e0:stC false false=0:=rfl
 rw[e0]at HS
 clear e0
 have c2:=h.cell 2
 simp at c2
 clear h hs
 by_cases h0:k<0
 ·clear hk
  go_enter Tryz.func80,Tryz.ntmps80
  go_wp2_with fail
  refine Calls.mono HS.out ?_
  rintro e w9 ⟨rfl,hw9⟩
  rw[hw9]
  clear hw9 HS
  go_wp2
  go_ret
  exact⟨rfl,rfl⟩
 ·have hk2:(M:Int)<=k:=by omega
  clear hk
  go_enter Tryz.func80,Tryz.ntmps80
  go_wp2_with fail
  refine Calls.mono HS.out ?_
  rintro e w9 ⟨rfl,hw9⟩
  rw[hw9]
  clear hw9 HS
  go_wp2
  go_ret
  exact⟨rfl,rfl⟩
theorem rback_raw{g:Nat}(h:Rt5 w g rb (.slice pa pn pc) (.slice (some ⟨mg,0,none⟩) M mc) false){sure:Int}(hs:Rs5 w rb nb fr bl fv dv sure ov false)(hmr:w.ownsRow 0 3 1 (.slice (some ⟨mg,0,none⟩) M mc) M xsm)(hk:k<M)(hM:M<=1073741823)(hmp:xsm[k]?=some (.int .i64 (p:Int)))(hpc:p<=pc)(hMc:M<=mc) :
  Calls Tryz.prog 80 #[.pointer (some ⟨g,0,none⟩),.int .i64 (k:Int)] w fun e w'=>e=.returned (.int .i64 0)/\Rt5 w' g rb (.slice pa p pc) (.slice (some ⟨mg,0,none⟩) (k+1) mc) false/\But (fun x=>x=g) w w':=by
 have HS:=hid (rstate_any h hs)
 have e0:stC false false=0:=rfl
 rw[e0]at HS
 clear e0
 obtain⟨PO,hPO⟩:∃PO:Ending->World->Prop,PO=fun e w'=>e=.returned (.int .i64 0)/\Rt5 w' g rb (.slice pa p pc) (.slice (some ⟨mg,0,none⟩) (k+1) mc) false/\But (fun x=>x=g) w w':=⟨_,rfl⟩
 rw[<- hPO]
 have c1:=h.cell 1
 have c2:=h.cell 2
 have f1:=h.frozen 1
 have ck:=(World.ownsRow.cellAt hmr k (by omega)).trans hmp
 have hmg:mg≠g:=by
  obtain⟨cur,hcur⟩:=rowKind hmr rfl
  exact kind_ne hcur h (by decide)
 have h1:=h.set1 (.slice pa p pc)
 have d2:=h1.cell 2
 have df:=h1.frozen 2
 have dk:(w.setCell ⟨g,1,none⟩ (.slice pa p pc)).cell? ⟨mg,k,none⟩=some (.int .i64 (p:Int)):=by
  rw[World.cell?_of_block (w:=w) (Below.heap_setCell _ _ _ _ hmg)]
  exact ck
 have h2:=h1.set2 (.slice (some ⟨mg,0,none⟩) (k+1) mc)
 simp at c1 c2 d2
 have HP:Hid (PO (.returned (.int .i64 0)) ((w.setCell ⟨g,1,none⟩ (.slice pa p pc)).setCell ⟨g,2,none⟩ (.slice (some ⟨mg,0,none⟩) (k+1) mc)).drew):=by
  rw[hPO]
  exact⟨rfl,h2,(((But.refl (fun x=>x=g) w).setCell (p:=⟨g,1,none⟩) rfl _).setCell (p:=⟨g,2,none⟩) rfl _).drew⟩
 have hk':(k:Int)<(M:Int):=by omega
 have hk0:¬(k:Int)<0:=by omega
 have hp':(p:Int)<=(pc:Int):=by omega
 have hk1:(k:Int)+1<=(mc:Int):=by omega
 clear h hs hmr hmp hPO h1 h2 hmg hpc hMc
 go_enter Tryz.func80,Tryz.ntmps80
 go_wp2_with fail
 refine Calls.mono HS.out ?_
 rintro e w9 ⟨rfl,hw9⟩
 rw[hw9]
 clear hw9 HS
 go_upto_region 6 with fail
 refine wp_region_held_drew (S:=fun w'=>w'.cell? ⟨g,2,none⟩=some (.slice (some ⟨mg,0,none⟩) M mc)/\w'.cell? ⟨mg,k,none⟩=some (.int .i64 (p:Int))) (by kernel_rfl) ⟨c2,ck⟩ (fun hSS=>?_)
 refine tk 0 (some 22) (.move (.tmp 0)) 65 none hSS ?_
 refine tk 1 (some 23) (.move (.tmp 0)) 65 none hSS ?_
 refine tk 2 (some 24) (.nilCheck (.tmp 23)) 0 none hSS ?_
 refine tk 3 (some 25) (.fieldAddr 115 (.tmp 24) 1) 0 none hSS ?_
 try simp only[Act.put,zA,zB,zC]
 refine tk 5 (some 27) (.move (.tmp 0)) 65 none hSS ?_
 refine tk 6 (some 28) (.nilCheck (.tmp 27)) 0 none hSS ?_
 refine tk 7 (some 29) (.fieldAddr 115 (.tmp 28) 2) 0 none hSS ?_
 refine tk 8 (some 30) (.load 37 (.tmp 29)) 37 none hSS ?_
 try simp only[Act.put,zA,zB,zC]
 refine tk 9 (some 31) (.move (.tmp 1)) 3 none hSS ?_
 refine tk 10 (some 32) (.indexAddr 37 (.tmp 30) (.tmp 31)) 0 none hSS ?_
 refine tk 11 (some 33) (.load 3 (.tmp 32)) 3 none hSS ?_
 try simp only[Act.put,zA,zB,zC]
 refine wpAnyH_ready (rs:=[4]) (by kernel_rfl) (by simp) (AllReadyH.cons (o:=({ dst:=some 26,op:=Op.load 60 (Operand.tmp 25),type:=60,pos:=_,after:=_,guard:=none }:Oper)) rfl (fun K9 hK9=>?_) AllReadyH.nil)
 go_simp
 refine hK9.out _ _ hSS (fun hSS=>?_)
 clear hK9 K9
 try simp only[Act.put,zA,zB,zC]
 refine tk 12 (some 34) (.slice 60 (.tmp 26) none (some (.tmp 33)) none) 60 none hSS ?_
 refine tk 13 (some 35) (.nilCheck (.tmp 22)) 0 none hSS ?_
 try simp only[Act.put,zA,zB,zC]
 refine tk 14 (some 36) (.fieldAddr 115 (.tmp 35) 1) 0 none hSS ?_
 try simp only[Act.put,zA,zB,zC]
 refine wpAnyH_ready (rs:=[15]) (by kernel_rfl) (by simp) (AllReadyH.cons (o:=({ dst:=none,op:=Op.store 60 (Operand.tmp 36) (Operand.tmp 34),type:=0,pos:=_,after:=_,guard:=none }:Oper)) rfl (fun K9 hK9=>?_) AllReadyH.nil)
 go_simp
 refine hK9.out _ _ ⟨d2,dk⟩ (fun hSS=>?_)
 clear hK9 K9
 try simp only[Act.put,zA,zB,zC]
 refine wpAnyH_done (by kernel_rfl) ?_ _
 clear hSS
 go_wp2_with fail
 exact HP.out
end Go.Proofs.YthfojpcibnfmgaaGreat
