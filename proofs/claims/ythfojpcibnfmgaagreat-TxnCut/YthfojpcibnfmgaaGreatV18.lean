import Derived.Test.YthfojpcibnfmgaaGreatV17
import Derived.Test.YthfojpcibnfmgaaGreatV11
import Derived.Deep.RegionHeld3
import Derived.Deep.DeepCutAuto
set_option maxRecDepth 100000
set_option maxHeartbeats 16000000
namespace Go.Proofs.YthfojpcibnfmgaaGreat
variable {Z Zw:Nat->Prop}
variable {w w':World}
variable {K b bl fr j m n nb p st t x:Nat}
variable {d:Pd}
variable {fv mv sv tv wv:Value}
variable {D:DataW (Nat×Nat×Int)}
open Go.RowKit Go.Deep
theorem over_new(j nb fr bl:Nat)(w:World):Calls Tryz.prog 60 #[.iface 76 (.pointer (some ⟨j,0,none⟩))] w fun e w'=>∃x m,e=.returned (.pointer (some ⟨x,0,none⟩))/\w.heap.size<=x/\w.heap.size<=m/\x<w'.heap.size/\m<w'.heap.size/\Below w.heap.size w w'/\Wq (fun k=>k=x\/k=m) w' x j m 0 nb fr bl (.map []) (fun _=>none) (.slice none 0 0) (.slice none 0 0) (fun _=>none):=by
 obtain⟨w1,hw1⟩:∃w1,w1=w.alloc (.map #[] 0):=⟨_,rfl⟩
 have z1:w1.heap.size=w.heap.size+1:=by rw[hw1];simp
 have b1:Below w.heap.size w w1:=by rw[hw1];exact (Below.refl _ _).alloc (Nat.le_refl _) _
 have m1:w1.ownsMap Tryz.prog 3 wrElem w.heap.size 0 (.map []:DataW (Nat×Nat×Int)):=by rw[hw1];exact World.ownsMap_made w Tryz.prog 3 wrElem
 obtain⟨w2,hw2⟩:∃w2,w2=w1.alloc (.cells #[.iface 76 (.pointer (some ⟨j,0,none⟩)),.map (some w.heap.size),.slice none 0 0,.slice none 0 0] 160):=⟨_,rfl⟩
 have z2:w2.heap.size=w.heap.size+2:=by rw[hw2];simp[z1]
 have b2:Below w1.heap.size w1 w2:=by rw[hw2];exact (Below.refl _ _).alloc (Nat.le_refl _) _
 have FIN:Hid (∃x m,Ending.returned (.pointer (some ⟨w.heap.size+1,0,none⟩))=.returned (.pointer (some ⟨x,0,none⟩))/\w.heap.size<=x/\w.heap.size<=m/\x<w2.heap.size/\m<w2.heap.size/\Below w.heap.size w w2/\Wq (fun k=>k=x\/k=m) w2 x j m 0 nb fr bl (.map []) (fun _=>none) (.slice none 0 0) (.slice none 0 0) (fun _=>none)):=by
  refine⟨w.heap.size+1,w.heap.size,rfl,by omega,by omega,by omega,by omega,b1.trans (b2.mono (by omega)),⟨?_,mapW_keep m1 (b2.block _ (by omega)),AMx.nil nb,(fun y g cp k e=>by cases e),fun _ _=>rfl,.inl rfl,.inr rfl⟩⟩
  rw[hw2,<- z1]
  exact Array.getElem?_push_size
 have HW:Hid (w2=(w.alloc (.map #[] 0)).alloc (.cells #[.iface 76 (.pointer (some ⟨j,0,none⟩)),.map (some w.heap.size),.slice none 0 0,.slice none 0 0] 160)):=hw2.trans (by rw[hw1])
 have hmm:=@run_makeMap Tryz.prog
 clear hw1 hw2 b1 b2 m1 z1 z2
 go_enter Tryz.func60,Tryz.ntmps60
 go_wp2
 rw[<- HW.out]
 go_ret
 exact FIN.out
theorem begin_any{c room:Nat}{s:Js}(h:Jq Z w j c p room nb K fr bl d s)(hon:d.off=false)(hs:Stb w st j (.pointer none)) :
  Calls Tryz.prog 26 #[.pointer (some ⟨st,0,none⟩)] w fun e w'=>∃t x m,e=.returned (.tuple #[.pointer (some ⟨t,0,none⟩),.int .i64 0])/\(w.heap.size<=t/\w.heap.size<=x/\w.heap.size<=m/\x<t/\m<t/\t<w'.heap.size)/\Txb w' t j (.iface 122 (.pointer (some ⟨x,0,none⟩))) st (.pointer (some ⟨x,0,none⟩))/\Stb w' st j (.pointer (some ⟨t,0,none⟩))/\Wq (fun k=>k=x\/k=m) w' x j m 0 nb fr bl (.map []) (fun _=>none) (.slice none 0 0) (.slice none 0 0) (fun _=>none)/\But (fun k=>k=st) w w':=by
 obtain⟨PO,hPO⟩:∃PO:Ending->World->Prop,PO=fun e w'=>∃t x m,e=.returned (.tuple #[.pointer (some ⟨t,0,none⟩),.int .i64 0])/\(w.heap.size<=t/\w.heap.size<=x/\w.heap.size<=m/\x<t/\m<t/\t<w'.heap.size)/\Txb w' t j (.iface 122 (.pointer (some ⟨x,0,none⟩))) st (.pointer (some ⟨x,0,none⟩))/\Stb w' st j (.pointer (some ⟨t,0,none⟩))/\Wq (fun k=>k=x\/k=m) w' x j m 0 nb fr bl (.map []) (fun _=>none) (.slice none 0 0) (.slice none 0 0) (fun _=>none)/\But (fun k=>k=st) w w':=⟨_,rfl⟩
 rw[<- hPO]
 have HA:=hid (sask_any h hs)
 rw[hon]at HA
 have HS:Hid (∀w',Below w.heap.size w w'->Stb w' st j (.pointer none)/\st<w'.heap.size):=fun w' b=>⟨hs.keep (b.block st hs.lt),Nat.lt_of_lt_of_le hs.lt b.size⟩
 have hsl:=hs.lt
 have HP:Hid (∀w2 x m,Below w.heap.size w w2->(w.heap.size<=x/\w.heap.size<=m/\x<w2.heap.size/\m<w2.heap.size)->Wq (fun k=>k=x\/k=m) w2 x j m 0 nb fr bl (.map []) (fun _=>none) (.slice none 0 0) (.slice none 0 0) (fun _=>none)->PO (.returned (.tuple #[.pointer (some ⟨w2.heap.size,0,none⟩),.int .i64 0])) ((w2.setCell ⟨st,2,none⟩ (.pointer (some ⟨w2.heap.size,0,none⟩))).alloc (.cells #[.pointer (some ⟨j,0,none⟩),.iface 122 (.pointer (some ⟨x,0,none⟩)),.pointer (some ⟨st,0,none⟩),.pointer (some ⟨x,0,none⟩)] 125))):=fun w2 x m b2 hx hW=>by
  rw[hPO]
  have s2:=b2.size
  have bs:But (fun k=>k=st) w2 (w2.setCell ⟨st,2,none⟩ (.pointer (some ⟨w2.heap.size,0,none⟩))):=(But.refl (fun k=>k=st) w2).setCell rfl _
  have bt:But (fun k=>k=st) w2 ((w2.setCell ⟨st,2,none⟩ (.pointer (some ⟨w2.heap.size,0,none⟩))).alloc (.cells #[.pointer (some ⟨j,0,none⟩),.iface 122 (.pointer (some ⟨x,0,none⟩)),.pointer (some ⟨st,0,none⟩),.pointer (some ⟨x,0,none⟩)] 125)):=bs.alloc _
  refine⟨w2.heap.size,x,m,rfl,⟨by omega,hx.1,hx.2.1,hx.2.2.1,hx.2.2.2,by simp⟩,?_,?_,hW.but bt (fun k hk q e=>by omega),(But.of_below b2 (X:=fun k=>k=st)).comp bt (fun _ _ q=>q)⟩
  ·have:=@Array.getElem?_push_size _ (w2.setCell ⟨st,2,none⟩ (.pointer (some ⟨w2.heap.size,0,none⟩))).heap (.cells #[.pointer (some ⟨j,0,none⟩),.iface 122 (.pointer (some ⟨x,0,none⟩)),.pointer (some ⟨st,0,none⟩),.pointer (some ⟨x,0,none⟩)] 125 (0,0))
   unfold Txb
   simp only[World.alloc]
   rw[show w2.heap.size=(w2.setCell ⟨st,2,none⟩ (.pointer (some ⟨w2.heap.size,0,none⟩))).heap.size by simp]
   simpa using this
  ·exact ((HS.out w2 b2).1.set _).keep (Below.heap_alloc _ _ _ (by simpa using (HS.out w2 b2).2))
 clear h hs hPO
 go_enter Tryz.func26,Tryz.ntmps26
 go_wp2_with fail
 refine Calls.mono HA.out ?_
 rintro e w1 ⟨rfl,b1⟩
 obtain⟨s1,_⟩:=HS.out w1 b1
 have k0:=s1.cell 0
 have k1:=s1.cell 1
 have k2:=s1.cell 2
 simp at k0 k1 k2
 have B1:=hid b1
 clear b1 HA s1
 go_wp2_with fail
 refine Calls.mono (over_new j nb fr bl w1) ?_
 rintro e w2 ⟨x,m,rfl,hx1,hx2,hx3,hx4,b2,hW⟩
 have s1:=B1.out.size
 have B2:Hid (Below w.heap.size w w2):=B1.out.trans (b2.mono s1)
 obtain⟨s2,hsl2⟩:=HS.out w2 B2.out
 have q0:=s2.cell 0
 have q2:=s2.cell 2
 have qf:=s2.frozen 2
 simp at q0 q2
 have FIN:=hid (HP.out w2 x m B2.out ⟨by omega,by omega,hx3,hx4⟩ hW)
 clear b2 hW k0 k1 k2 HS HP s2 B1 B2 hx1 hx2 s1
 go_wp2
 exact FIN.out
theorem end_any(ht:Txb w t j fv st wv)(hs:Stb w st j tv)(hne:st≠t) :
  Calls Tryz.prog 69 #[.pointer (some ⟨t,0,none⟩)] w fun e w'=>e=.returned (.tuple #[])/\Txb w' t j .nilIface st (.pointer none)/\Stb w' st j (.pointer none)/\But (fun k=>k=st\/k=t) w w':=by
 obtain⟨PO,hPO⟩:∃PO:Ending->World->Prop,PO=fun e w'=>e=.returned (.tuple #[])/\Txb w' t j .nilIface st (.pointer none)/\Stb w' st j (.pointer none)/\But (fun k=>k=st\/k=t) w w':=⟨_,rfl⟩
 rw[<- hPO]
 obtain⟨w3,hw3⟩:∃w3,w3=((w.setCell ⟨st,2,none⟩ (.pointer none)).setCell ⟨t,3,none⟩ (.pointer none)).setCell ⟨t,1,none⟩ .nilIface:=⟨_,rfl⟩
 have FIN:Hid (Txb w3 t j .nilIface st (.pointer none)/\Stb w3 st j (.pointer none)/\But (fun k=>k=st\/k=t) w w3):=by
  have t1:Txb (w.setCell ⟨st,2,none⟩ (.pointer none)) t j fv st wv:=ht.keep (Below.heap_setCell _ _ _ _ (fun e=>hne e.symm))
  have t2:Txb ((w.setCell ⟨st,2,none⟩ (.pointer none)).setCell ⟨t,3,none⟩ (.pointer none)) t j fv st (.pointer none):=by
   unfold Txb at *
   simp only[World.setCell,Array.getElem?_modify]at t1 ⊢
   rw[t1]
   simp
  refine⟨?_,?_,?_⟩
  ·rw[hw3]
   unfold Txb at *
   simp only[World.setCell,Array.getElem?_modify]at t2 ⊢
   rw[t2]
   simp
  ·rw[hw3]
   exact ((hs.set (.pointer none)).keep (Below.heap_setCell _ _ _ _ hne)).keep (Below.heap_setCell _ _ _ _ hne)
  ·rw[hw3]
   exact (((But.refl (fun k=>k=st\/k=t) w).setCell (.inl rfl) _).setCell (.inr rfl) _).setCell (.inr rfl) _
 have FP:Hid (PO (.returned (.tuple #[])) w3):=by rw[hPO];exact⟨rfl,FIN.out⟩
 have HW:=hid hw3
 clear FIN hPO
 have k2:=ht.cell 2
 have k3:=ht.cell 3
 have k1:=ht.cell 1
 have f1:=ht.frozen 1
 have f3:=ht.frozen 3
 have q2:=hs.cell 2
 have qf:=hs.frozen 2
 simp at k1 k2 k3 q2
 have hne':¬t=st:=fun e=>hne e.symm
 clear ht hs hw3
 go_enter Tryz.func69,Tryz.ntmps69
 go_wp2
 rw[<- HW.out]
 go_end0
 exact FP.out
open Go.RowKit Go.Deep
def putL (L:Nat->Option (List Int)) (y:Nat) (zs:List Int):Nat->Option (List Int):=fun z=>if z=y then some zs else L z
open Go.RowKit Go.Deep
theorem abort_any{c room:Nat}{s:Js}(h:Jq Z w j c p room nb K fr bl d s)(hon:d.off=false)(ht:Txb w t j fv st wv)(hs:Stb w st j (.pointer (some ⟨t,0,none⟩)))(hne:st≠t) :
  Calls Tryz.prog 35 #[.pointer (some ⟨t,0,none⟩)] w fun e w'=>e=.returned (.int .i64 0)/\Txb w' t j .nilIface st (.pointer none)/\Stb w' st j (.pointer none)/\But (fun k=>k=st\/k=t) w w':=by
 obtain⟨PO,hPO⟩:∃PO:Ending->World->Prop,PO=fun e w'=>e=.returned (.int .i64 0)/\Txb w' t j .nilIface st (.pointer none)/\Stb w' st j (.pointer none)/\But (fun k=>k=st\/k=t) w w':=⟨_,rfl⟩
 rw[<- hPO]
 have HA:=hid (task_open h hon ht hs)
 have HE:Hid (∀w1,Below w.heap.size w w1->Calls Tryz.prog 69 #[.pointer (some ⟨t,0,none⟩)] w1 fun e w'=>e=.returned (.tuple #[])/\PO (.returned (.int .i64 0)) w'):=fun w1 b1=>by
  refine Calls.mono (end_any (ht.keep (b1.block t ht.lt)) (hs.keep (b1.block st hs.lt)) hne) ?_
  rintro e w' ⟨rfl,q1,q2,q3⟩
  refine⟨rfl,?_⟩
  rw[hPO]
  exact⟨rfl,q1,q2,(But.of_below b1 (X:=fun k=>k=st\/k=t)).comp q3 (fun _ _ q=>q)⟩
 clear h ht hs hPO
 go_enter Tryz.func35,Tryz.ntmps35
 go_wp2_with fail
 refine Calls.mono HA.out ?_
 rintro e w1 ⟨rfl,b1⟩
 have HE1:=hid (HE.out w1 b1)
 clear b1 HA HE
 go_wp2_with fail
 refine Calls.mono HE1.out ?_
 rintro e w3 ⟨rfl,q⟩
 have FIN:=hid q
 clear q HE1
 go_wp2
 exact FIN.out
open Go.RowKit Go.Deep
theorem neq_tnil(w:World)(a:Addr):(binOp .neq 81 (.pointer none) (.pointer (some a))).run Tryz.prog w=.ok (.bool true) w:=by
 have h:∀d:Nat,(Op.equalIn (d+1) 81 (.pointer none) (.pointer (some a))).run Tryz.prog w=.ok false w:=fun d=>by
  simp[Op.equalIn,run_underlying Tryz.underlying81]
 simp only[binOp]
 simp[Op.equal,Op.maxDepth,h 9999]
theorem task_nil(w:World):Calls Tryz.prog 62 #[.pointer none] w fun e w'=>e=.returned (.int .i64 1)/\Below w.heap.size w w':=by
 have B:Hid (Below w.heap.size w w):=Below.refl _ _
 go_enter Tryz.func62,Tryz.ntmps62
 go_wp2
 go_ret
 exact⟨rfl,B.out⟩
theorem task_off{c room:Nat}{s:Js}(h:Jq Z w j c p room nb K fr bl d s)(hoff:d.off=true)(ht:Txb w t j fv st wv):Calls Tryz.prog 62 #[.pointer (some ⟨t,0,none⟩)] w fun e w'=>e=.returned (.int .i64 24)/\Below w.heap.size w w':=by
 have H:=hid (power_any h (ht.cell 0))
 rw[hoff]at H
 clear h ht
 go_enter Tryz.func62,Tryz.ntmps62
 go_wp2_with fail
 refine Calls.mono H.out ?_
 rintro e w1 ⟨rfl,b1⟩
 have B1:=hid b1
 clear b1 H
 go_wp2
 go_ret
 exact⟨rfl,B1.out⟩
theorem task_over0{c room:Nat}{s:Js}(h:Jq Z w j c p room nb K fr bl d s)(hon:d.off=false)(ht:Txb w t j fv st wv)(hs:Stb w st j (.pointer none)):Calls Tryz.prog 62 #[.pointer (some ⟨t,0,none⟩)] w fun e w'=>e=.returned (.int .i64 51)/\Below w.heap.size w w':=by
 have H:=hid (power_any h (ht.cell 0))
 rw[hon]at H
 have HC:Hid (∀w',Below w.heap.size w w'->w'.cell? ⟨t,2,none⟩=some (.pointer (some ⟨st,0,none⟩))/\w'.cell? ⟨st,2,none⟩=some (.pointer none)):=fun w' b=>⟨(b.cell (p:=⟨t,2,none⟩) ht.lt).trans (ht.cell 2),(b.cell (p:=⟨st,2,none⟩) hs.lt).trans (hs.cell 2)⟩
 clear h ht hs
 go_enter Tryz.func62,Tryz.ntmps62
 go_wp2_with fail
 refine Calls.mono H.out ?_
 rintro e w1 ⟨rfl,b1⟩
 obtain⟨c2,c3⟩:=HC.out w1 b1
 have hq:=neq_tnil w1 ⟨t,0,none⟩
 have B1:=hid b1
 clear b1 H HC
 go_wp2
 go_ret
 exact⟨rfl,B1.out⟩
theorem task_over1{c room:Nat}{s:Js}(h:Jq Z w j c p room nb K fr bl d s)(hon:d.off=false){t2:Nat}(ht:Txb w t j fv st wv)(hs:Stb w st j (.pointer (some ⟨t2,0,none⟩))){fv2 wv2:Value}(ht2:Txb w t2 j fv2 st wv2)(hne:t2≠t):Calls Tryz.prog 62 #[.pointer (some ⟨t,0,none⟩)] w fun e w'=>e=.returned (.int .i64 51)/\Below w.heap.size w w':=by
 have H:=hid (power_any h (ht.cell 0))
 rw[hon]at H
 have HC:Hid (∀w',Below w.heap.size w w'->w'.cell? ⟨t,2,none⟩=some (.pointer (some ⟨st,0,none⟩))/\w'.cell? ⟨st,2,none⟩=some (.pointer (some ⟨t2,0,none⟩))/\(binOp .neq 81 (.pointer (some ⟨t2,0,none⟩)) (.pointer (some ⟨t,0,none⟩))).run Tryz.prog w'=.ok (.bool true) w'):=fun w' b=>⟨(b.cell (p:=⟨t,2,none⟩) ht.lt).trans (ht.cell 2),(b.cell (p:=⟨st,2,none⟩) hs.lt).trans (hs.cell 2),neq_tother hne (ht2.keep (b.block t2 ht2.lt)) (ht.keep (b.block t ht.lt))⟩
 clear h ht hs ht2
 go_enter Tryz.func62,Tryz.ntmps62
 go_wp2_with fail
 refine Calls.mono H.out ?_
 rintro e w1 ⟨rfl,b1⟩
 obtain⟨c2,c3,hq⟩:=HC.out w1 b1
 have B1:=hid b1
 clear b1 H HC
 go_wp2
 go_ret
 exact⟨rfl,B1.out⟩
theorem sread_no{v:Value}{code:Int}(HS:Calls Tryz.prog 25 #[v] w fun e w'=>e=.returned (.int .i64 code)/\Below w.heap.size w w')(hc:(code != 0)=true)(y:Int):Calls Tryz.prog 27 #[v,.int .i64 y] w fun e w'=>e=.returned (.tuple #[.slice none 0 0,.int .i64 code])/\Below w.heap.size w w':=by
 have HS:=hid HS
 go_enter Tryz.func27,Tryz.ntmps27
 go_wp2_with fail
 refine Calls.mono HS.out ?_
 rintro e w1 ⟨rfl,b1⟩
 have B1:=hid b1
 clear b1 HS
 go_wp2
 go_ret2
 exact⟨rfl,B1.out⟩
theorem sbegin_no{v:Value}{code:Int}(HS:Calls Tryz.prog 25 #[v] w fun e w'=>e=.returned (.int .i64 code)/\Below w.heap.size w w')(hc:(code != 0)=true):Calls Tryz.prog 26 #[v] w fun e w'=>e=.returned (.tuple #[.pointer none,.int .i64 code])/\Below w.heap.size w w':=by
 have HS:=hid HS
 go_enter Tryz.func26,Tryz.ntmps26
 go_wp2_with fail
 refine Calls.mono HS.out ?_
 rintro e w1 ⟨rfl,b1⟩
 have B1:=hid b1
 clear b1 HS
 go_wp2
 go_ret2
 exact⟨rfl,B1.out⟩
theorem sflush_no{v:Value}{code:Int}(HS:Calls Tryz.prog 25 #[v] w fun e w'=>e=.returned (.int .i64 code)/\Below w.heap.size w w')(hc:(code != 0)=true):Calls Tryz.prog 30 #[v] w fun e w'=>e=.returned (.int .i64 code)/\Below w.heap.size w w':=by
 have HS:=hid HS
 go_enter Tryz.func30,Tryz.ntmps30
 go_wp2_with fail
 refine Calls.mono HS.out ?_
 rintro e w1 ⟨rfl,b1⟩
 have B1:=hid b1
 clear b1 HS
 go_wp2
 go_ret
 exact⟨rfl,B1.out⟩
theorem tread_no{v:Value}{code:Int}(HS:Calls Tryz.prog 62 #[v] w fun e w'=>e=.returned (.int .i64 code)/\Below w.heap.size w w')(hc:(code != 0)=true)(y:Int):Calls Tryz.prog 28 #[v,.int .i64 y] w fun e w'=>e=.returned (.tuple #[.slice none 0 0,.int .i64 code])/\Below w.heap.size w w':=by
 have HS:=hid HS
 go_enter Tryz.func28,Tryz.ntmps28
 go_wp2_with fail
 refine Calls.mono HS.out ?_
 rintro e w1 ⟨rfl,b1⟩
 have B1:=hid b1
 clear b1 HS
 go_wp2
 go_ret2
 exact⟨rfl,B1.out⟩
theorem twrite_no{v:Value}{code:Int}(HS:Calls Tryz.prog 62 #[v] w fun e w'=>e=.returned (.int .i64 code)/\Below w.heap.size w w')(hc:(code != 0)=true)(y:Int)(dv:Value):Calls Tryz.prog 32 #[v,.int .i64 y,dv] w fun e w'=>e=.returned (.int .i64 code)/\Below w.heap.size w w':=by
 have HS:=hid HS
 go_enter Tryz.func32,Tryz.ntmps32
 go_wp2_with fail
 refine Calls.mono HS.out ?_
 rintro e w1 ⟨rfl,b1⟩
 have B1:=hid b1
 clear b1 HS
 go_wp2
 go_ret
 exact⟨rfl,B1.out⟩
theorem tmark_no{v:Value}{code:Int}(HS:Calls Tryz.prog 62 #[v] w fun e w'=>e=.returned (.int .i64 code)/\Below w.heap.size w w')(hc:(code != 0)=true):Calls Tryz.prog 29 #[v] w fun e w'=>e=.returned (.tuple #[.int .i64 0,.int .i64 code])/\Below w.heap.size w w':=by
 have HS:=hid HS
 go_enter Tryz.func29,Tryz.ntmps29
 go_wp2_with fail
 refine Calls.mono HS.out ?_
 rintro e w1 ⟨rfl,b1⟩
 have B1:=hid b1
 clear b1 HS
 go_wp2
 go_ret2
 exact⟨rfl,B1.out⟩
theorem tback_no{v:Value}{code:Int}(HS:Calls Tryz.prog 62 #[v] w fun e w'=>e=.returned (.int .i64 code)/\Below w.heap.size w w')(hc:(code != 0)=true)(k:Int):Calls Tryz.prog 33 #[v,.int .i64 k] w fun e w'=>e=.returned (.int .i64 code)/\Below w.heap.size w w':=by
 have HS:=hid HS
 go_enter Tryz.func33,Tryz.ntmps33
 go_wp2_with fail
 refine Calls.mono HS.out ?_
 rintro e w1 ⟨rfl,b1⟩
 have B1:=hid b1
 clear b1 HS
 go_wp2
 go_ret
 exact⟨rfl,B1.out⟩
theorem tcommit_no{v:Value}{code:Int}(HS:Calls Tryz.prog 62 #[v] w fun e w'=>e=.returned (.int .i64 code)/\Below w.heap.size w w')(hc:(code != 0)=true):Calls Tryz.prog 34 #[v] w fun e w'=>e=.returned (.int .i64 code)/\Below w.heap.size w w':=by
 have HS:=hid HS
 go_enter Tryz.func34,Tryz.ntmps34
 go_wp2_with fail
 refine Calls.mono HS.out ?_
 rintro e w1 ⟨rfl,b1⟩
 have B1:=hid b1
 clear b1 HS
 go_wp2
 go_ret
 exact⟨rfl,B1.out⟩
theorem tabort_no{v:Value}{code:Int}(HS:Calls Tryz.prog 62 #[v] w fun e w'=>e=.returned (.int .i64 code)/\Below w.heap.size w w')(hc:(code != 0)=true):Calls Tryz.prog 35 #[v] w fun e w'=>e=.returned (.int .i64 code)/\Below w.heap.size w w':=by
 have HS:=hid HS
 go_enter Tryz.func35,Tryz.ntmps35
 go_wp2_with fail
 refine Calls.mono HS.out ?_
 rintro e w1 ⟨rfl,b1⟩
 have B1:=hid b1
 clear b1 HS
 go_wp2
 go_ret
 exact⟨rfl,B1.out⟩
theorem sbegin_open{c room:Nat}{s:Js}(h:Jq Z w j c p room nb K fr bl d s)(hon:d.off=false){a:Addr}(hs:Stb w st j (.pointer (some a))):Calls Tryz.prog 26 #[.pointer (some ⟨st,0,none⟩)] w fun e w'=>e=.returned (.tuple #[.pointer none,.int .i64 50])/\Below w.heap.size w w':=by
 have H:=hid (sask_any h hs)
 rw[hon]at H
 have HC:Hid (∀w',Below w.heap.size w w'->w'.cell? ⟨st,2,none⟩=some (.pointer (some a))):=fun w' b=>(b.cell (p:=⟨st,2,none⟩) hs.lt).trans (hs.cell 2)
 clear h hs
 go_enter Tryz.func26,Tryz.ntmps26
 go_wp2_with fail
 refine Calls.mono H.out ?_
 rintro e w1 ⟨rfl,b1⟩
 have c3:=HC.out w1 b1
 have B1:=hid b1
 clear b1 H HC
 go_wp2
 go_ret2
 exact⟨rfl,B1.out⟩
theorem look_jfar{c room:Nat}{s:Js}(h:Jq Z w j c p room nb K fr bl d s)(h1:fr+bl<=nb)(hon:d.off=false)(y:Int)(hh:homeC nb fr bl y≠0)(hc:w.cell? ⟨b,1,none⟩=some (.iface 76 (.pointer (some ⟨j,0,none⟩)))):Calls Tryz.prog 61 #[.pointer (some ⟨b,0,none⟩),.int .i64 y] w fun e w'=>e=.returned (.tuple #[.slice none 0 0,.int .i64 42])/\Below w.heap.size w w':=by
 have H:=hid (Read_far h h1 hon y hh)
 rw[homeC_forty hh]at H
 have hm:=readJ (.pointer (some ⟨j,0,none⟩))
 clear h hh
 go_enter Tryz.func61,Tryz.ntmps61
 go_wp2_with (simp only[hm])
 refine Calls.mono H.out ?_
 rintro e w1 ⟨rfl,b1⟩
 have B1:=hid b1
 clear b1 H
 go_wp2
 go_ret2
 exact⟨rfl,B1.out⟩
open Go.RowKit Go.Deep
theorem Wq.lows{a:Nat->Option (Nat×Nat×Int)}{L:Nat->Option (List Int)}(hW:Wq Zw w x j m n nb fr bl D a sv mv L)(b:Below w.heap.size w w'):Wq Zw w' x j m n nb fr bl D a sv mv L:=hW.keep (fun k _ hk=>b.block k hk)
theorem sread_far{c room:Nat}{s:Js}(h:Jq Z w j c p room nb K fr bl d s)(h1:fr+bl<=nb)(hon:d.off=false)(y:Int)(hh:homeC nb fr bl y≠0)(hs:Stb w st j tv):Calls Tryz.prog 27 #[.pointer (some ⟨st,0,none⟩),.int .i64 y] w fun e w'=>e=.returned (.tuple #[.slice none 0 0,.int .i64 42])/\Below w.heap.size w w':=by
 have HA:=hid (sask_any h hs)
 rw[hon]at HA
 have HL:Hid (∀w1,Below w.heap.size w w1->Calls Tryz.prog 61 #[.pointer (some ⟨st,0,none⟩),.int .i64 y] w1 fun e w'=>e=.returned (.tuple #[.slice none 0 0,.int .i64 42])/\Below w.heap.size w w'):=fun w1 b1=>by
  refine Calls.mono (look_jfar (h.below b1) h1 hon y hh (b:=st) ((b1.cell (p:=⟨st,1,none⟩) hs.lt).trans (hs.cell 1))) ?_
  rintro e w' ⟨q1,q2⟩
  exact⟨q1,b1.trans (q2.mono b1.size)⟩
 clear h hs hh
 go_enter Tryz.func27,Tryz.ntmps27
 go_wp2_with fail
 refine Calls.mono HA.out ?_
 rintro e w1 ⟨rfl,b1⟩
 have HL1:=hid (HL.out w1 b1)
 clear b1 HA HL
 go_wp2_with fail
 refine Calls.mono HL1.out ?_
 rintro e w3 ⟨rfl,q⟩
 have FIN:=hid q
 clear q HL1
 go_wp2
 go_ret2
 exact⟨rfl,FIN.out⟩
theorem look_wfar{c room:Nat}{s:Js}(h:Jq Z w j c p room nb K fr bl d s){a:Nat->Option (Nat×Nat×Int)}{L:Nat->Option (List Int)}(hW:Wq Zw w x j m n nb fr bl D a sv mv L)(h1:fr+bl<=nb)(hon:d.off=false)(y:Int)(hy1:-9223372036854775808<=y)(hy2:y<=9223372036854775807)(hh:homeC nb fr bl y≠0)(hc:w.cell? ⟨b,1,none⟩=some (.iface 122 (.pointer (some ⟨x,0,none⟩)))):Calls Tryz.prog 61 #[.pointer (some ⟨b,0,none⟩),.int .i64 y] w fun e w'=>e=.returned (.tuple #[.slice none 0 0,.int .i64 42])/\Below w.heap.size w w':=by
 have H:=hid (wread_far h hW h1 hon y hy1 hy2 hh)
 clear h hW hh
 go_enter Tryz.func61,Tryz.ntmps61
 go_wp2_with (rw[readW])
 refine Calls.mono H.out ?_
 rintro e w1 ⟨rfl,b1⟩
 have B1:=hid b1
 clear b1 H
 go_wp2
 go_ret2
 exact⟨rfl,B1.out⟩
theorem tread_far{c room:Nat}{s:Js}(h:Jq Z w j c p room nb K fr bl d s){a:Nat->Option (Nat×Nat×Int)}{L:Nat->Option (List Int)}(hW:Wq Zw w x j m n nb fr bl D a sv mv L)(h1:fr+bl<=nb)(hon:d.off=false)(y:Int)(hy1:-9223372036854775808<=y)(hy2:y<=9223372036854775807)(hh:homeC nb fr bl y≠0)(ht:Txb w t j (.iface 122 (.pointer (some ⟨x,0,none⟩))) st (.pointer (some ⟨x,0,none⟩)))(hs:Stb w st j (.pointer (some ⟨t,0,none⟩))):Calls Tryz.prog 28 #[.pointer (some ⟨t,0,none⟩),.int .i64 y] w fun e w'=>e=.returned (.tuple #[.slice none 0 0,.int .i64 42])/\Below w.heap.size w w':=by
 have HA:=hid (task_open h hon ht hs)
 have HL:Hid (∀w1,Below w.heap.size w w1->Calls Tryz.prog 61 #[.pointer (some ⟨t,0,none⟩),.int .i64 y] w1 fun e w'=>e=.returned (.tuple #[.slice none 0 0,.int .i64 42])/\Below w.heap.size w w'):=fun w1 b1=>by
  refine Calls.mono (look_wfar (h.below b1) (hW.lows b1) h1 hon y hy1 hy2 hh (b:=t) ((b1.cell (p:=⟨t,1,none⟩) ht.lt).trans (ht.cell 1))) ?_
  rintro e w' ⟨q1,q2⟩
  exact⟨q1,b1.trans (q2.mono b1.size)⟩
 clear h hs hh ht hW
 go_enter Tryz.func28,Tryz.ntmps28
 go_wp2_with fail
 refine Calls.mono HA.out ?_
 rintro e w1 ⟨rfl,b1⟩
 have HL1:=hid (HL.out w1 b1)
 clear b1 HA HL
 go_wp2_with fail
 refine Calls.mono HL1.out ?_
 rintro e w3 ⟨rfl,q⟩
 have FIN:=hid q
 clear q HL1
 go_wp2
 go_ret2
 exact⟨rfl,FIN.out⟩
theorem twrite_far{c room:Nat}{s:Js}(h:Jq Z w j c p room nb K fr bl d s){a:Nat->Option (Nat×Nat×Int)}{L:Nat->Option (List Int)}(hW:Wq Zw w x j m n nb fr bl D a sv mv L)(h1:fr+bl<=nb)(hon:d.off=false)(y:Int)(hy1:-9223372036854775808<=y)(hy2:y<=9223372036854775807)(hh:homeC nb fr bl y≠0)(ht:Txb w t j (.iface 122 (.pointer (some ⟨x,0,none⟩))) st (.pointer (some ⟨x,0,none⟩)))(hs:Stb w st j (.pointer (some ⟨t,0,none⟩)))(dv:Value):Calls Tryz.prog 32 #[.pointer (some ⟨t,0,none⟩),.int .i64 y,dv] w fun e w'=>e=.returned (.int .i64 42)/\Below w.heap.size w w':=by
 have HA:=hid (task_open h hon ht hs)
 have HL:Hid (∀w1,Below w.heap.size w w1->Calls Tryz.prog 61 #[.pointer (some ⟨t,0,none⟩),.int .i64 y] w1 fun e w'=>e=.returned (.tuple #[.slice none 0 0,.int .i64 42])/\Below w.heap.size w w'):=fun w1 b1=>by
  refine Calls.mono (look_wfar (h.below b1) (hW.lows b1) h1 hon y hy1 hy2 hh (b:=t) ((b1.cell (p:=⟨t,1,none⟩) ht.lt).trans (ht.cell 1))) ?_
  rintro e w' ⟨q1,q2⟩
  exact⟨q1,b1.trans (q2.mono b1.size)⟩
 clear h hs hh ht hW
 go_enter Tryz.func32,Tryz.ntmps32
 go_wp2_with fail
 refine Calls.mono HA.out ?_
 rintro e w1 ⟨rfl,b1⟩
 have HL1:=hid (HL.out w1 b1)
 clear b1 HA HL
 go_wp2_with fail
 refine Calls.mono HL1.out ?_
 rintro e w3 ⟨rfl,q⟩
 have FIN:=hid q
 clear q HL1
 go_wp2
 go_ret
 exact⟨rfl,FIN.out⟩
theorem twrite_len{c room:Nat}{s:Js}(h:Jq Z w j c p room nb K fr bl d s){a:Nat->Option (Nat×Nat×Int)}{L:Nat->Option (List Int)}(hW:Wq Zw w x j m n nb fr bl D a sv mv L)(h1:fr+bl<=nb)(hon:d.off=false)(hl:d.puts.length<=1073741824)(hK:K<4611686018427387904)(hnb:nb<=524288)(y:Nat)(hy:y<nb)(hh:homeC nb fr bl (y:Int)=0)(ht:Txb w t j (.iface 122 (.pointer (some ⟨x,0,none⟩))) st (.pointer (some ⟨x,0,none⟩)))(hs:Stb w st j (.pointer (some ⟨t,0,none⟩)))(xa:Option Addr)(xn xc:Nat)(hx:xn≠512):Calls Tryz.prog 32 #[.pointer (some ⟨t,0,none⟩),.int .i64 (y:Int),.slice xa xn xc] w fun e w'=>e=.returned (.int .i64 43)/\(∃Z',Jq Z' w' j c p room nb (K+1) fr bl d s/\Gr Z Z' w)/\But Z w w':=by
 have HA:=hid (task_open h hon ht hs)
 have HL:Hid (∀w1,Below w.heap.size w w1->Calls Tryz.prog 61 #[.pointer (some ⟨t,0,none⟩),.int .i64 (y:Int)] w1 (RdH (fun k=>Z k/\k<w.heap.size) w1 j c p room nb K fr bl d s ((L y).getD (jread d s y)))):=fun w1 b1=>look_w (h.cut.below b1) (hW.lows b1) h1 hon hl hK hnb y hy hh ((b1.cell (p:=⟨t,1,none⟩) ht.lt).trans (ht.cell 1))
 have HP:Hid (∀w1 e w',Below w.heap.size w w1->RdH (fun k=>Z k/\k<w.heap.size) w1 j c p room nb K fr bl d s ((L y).getD (jread d s y)) e w'->(∃Z',Jq Z' w' j c p room nb (K+1) fr bl d s/\Gr Z Z' w)/\But Z w w'):=fun w1 e w' b q=>by
  obtain⟨g,cp,_,_,_,_,⟨Z',q5,q6,_⟩,q8⟩:=q.low b
  exact⟨⟨Z',q5,q6⟩,q8⟩
 have hq:((xn:Int) != 512)=true:=by simp;omega
 clear h hs ht hW hx
 go_enter Tryz.func32,Tryz.ntmps32
 go_wp2_with fail
 refine Calls.mono HA.out ?_
 rintro e w1 ⟨rfl,b1⟩
 have HL1:=hid (HL.out w1 b1)
 have HP1:=hid (fun e w'=>HP.out w1 e w' b1)
 clear b1 HA HL HP
 go_wp2_with fail
 refine Calls.mono HL1.out ?_
 rintro e w3 q
 obtain⟨g3,cp3,rfl,_⟩:=id q
 have FIN:=hid (HP1.out _ w3 q)
 clear q HL1 HP1
 go_wp2
 go_ret
 exact⟨rfl,FIN.out⟩
theorem info83:(Tryz.prog.info? 83).map (fun i=>i.size)=some 3:=by kernel_rfl
theorem neq_ssame(w:World)(a:Addr):(binOp .neq 27 (.pointer (some a)) (.pointer (some a))).run Tryz.prog w=.ok (.bool false) w:=by
 obtain⟨j,hj,_⟩:=Option.map_eq_some_iff.1 info83
 have h:∀d:Nat,(Op.equalIn (d+1) 27 (.pointer (some a)) (.pointer (some a))).run Tryz.prog w=.ok true w:=fun d=>by
  simp[Op.equalIn,run_underlying Tryz.underlying27,sizeOf,typeInfo,hj,run_sameAddr_same]
 simp only[binOp]
 simp[Op.equal,Op.maxDepth,h 9999]
theorem sowns_nil(w:World)(a:Addr):Calls Tryz.prog 31 #[.pointer (some a),.pointer none] w fun e w'=>e=.returned (.int .i64 1)/\Below w.heap.size w w':=by
 have B:Hid (Below w.heap.size w w):=Below.refl _ _
 go_enter Tryz.func31,Tryz.ntmps31
 go_wp2
 go_ret
 exact⟨rfl,B.out⟩
theorem sowns_off{c room:Nat}{s:Js}(h:Jq Z w j c p room nb K fr bl d s)(hoff:d.off=true)(hs:Stb w st j tv)(a:Addr):Calls Tryz.prog 31 #[.pointer (some ⟨st,0,none⟩),.pointer (some a)] w fun e w'=>e=.returned (.int .i64 24)/\Below w.heap.size w w':=by
 have HA:=hid (sask_any h hs)
 rw[hoff]at HA
 clear h hs
 go_enter Tryz.func31,Tryz.ntmps31
 go_wp2_with fail
 refine Calls.mono HA.out ?_
 rintro e w1 ⟨rfl,b1⟩
 have B1:=hid b1
 clear b1 HA
 go_wp2
 go_ret
 exact⟨rfl,B1.out⟩
theorem sowns_own{c room:Nat}{s:Js}(h:Jq Z w j c p room nb K fr bl d s)(hon:d.off=false)(hs:Stb w st j tv)(ht:Txb w t j fv st wv){code:Int}(HT:∀w',Below w.heap.size w w'->Calls Tryz.prog 62 #[.pointer (some ⟨t,0,none⟩)] w' fun e w2=>e=.returned (.int .i64 code)/\Below w'.heap.size w' w2):Calls Tryz.prog 31 #[.pointer (some ⟨st,0,none⟩),.pointer (some ⟨t,0,none⟩)] w fun e w'=>e=.returned (.int .i64 code)/\Below w.heap.size w w':=by
 have HA:=hid (sask_any h hs)
 rw[hon]at HA
 have HC:Hid (∀w',Below w.heap.size w w'->w'.cell? ⟨t,2,none⟩=some (.pointer (some ⟨st,0,none⟩))):=fun w' b=>(b.cell (p:=⟨t,2,none⟩) ht.lt).trans (ht.cell 2)
 have HT:=hid HT
 clear h hs ht
 go_enter Tryz.func31,Tryz.ntmps31
 go_wp2_with fail
 refine Calls.mono HA.out ?_
 rintro e w1 ⟨rfl,b1⟩
 have c2:=HC.out w1 b1
 have hq:=neq_ssame w1 ⟨st,0,none⟩
 have HT1:=hid (HT.out w1 b1)
 have B1:=hid b1
 clear b1 HA HC HT
 go_wp2_with fail
 refine Calls.mono HT1.out ?_
 rintro e w2 ⟨rfl,b2⟩
 have B2:=hid (B1.out.trans (b2.mono B1.out.size))
 clear b2 HT1 B1
 go_wp2
 go_ret
 exact⟨rfl,B2.out⟩
end Go.Proofs.YthfojpcibnfmgaaGreat
