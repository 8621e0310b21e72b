import Derived.Test.YthfojpcibnfmgaaGreatH43
import Derived.Test.YthfojpcibnfmgaaGreatH26
set_option maxRecDepth 100000
set_option maxHeartbeats 16000000
namespace Go.Proofs.YthfojpcibnfmgaaGreat
variable {w:World}
variable {B M e k n:Nat}
variable {xs:List Value}
open Go.RowKit Go.Deep
theorem Dsk.actISee{B:Nat->Prop}{ob:Nat}(h:Dsk B w ob M)(hM:M<=268435455)(wh tx at_ fl:Int)(ra:Option Addr)(rn rc:Nat)(oo:Nat)(hy1:-9223372036854775808<=at_)(hy2:at_<=9223372036854775807):Calls Tryz.prog 13 #[.pointer (some ⟨ob,0,none⟩),(.agg #[.int .i64 wh,.int .i64 2,.int .i64 tx,.int .i64 at_,.int .i64 fl,.slice ra rn rc]),.pointer (some ⟨oo,0,none⟩)] w (ActW B w ob (M+1)):=by
 obtain⟨PO,hPO⟩:∃PO:Ending->World->Prop,PO=ActW B w ob (M+1):=⟨_,rfl⟩
 rw[<- hPO]
 have b0:Below w.heap.size w (w.alloc (.cells #[.int .i64 wh,.int .i64 2,.int .i64 tx,.int .i64 at_,.int .i64 fl,.slice ra rn rc] 42)):=(Below.refl _ _).alloc (Nat.le_refl _) _
 have hbx0:Bx (w.alloc (.cells #[.int .i64 wh,.int .i64 2,.int .i64 tx,.int .i64 at_,.int .i64 fl,.slice ra rn rc] 42)) w.heap.size wh 2 tx at_ fl (.slice ra rn rc):=alloc_new rfl _
 have HL:Hid (Calls Tryz.prog 40 #[.pointer (some ⟨ob,0,none⟩),(.agg #[.int .i64 wh,.int .i64 2,.int .i64 tx,.int .i64 at_,.int .i64 fl,.slice ra rn rc])] (w.alloc (.cells #[.int .i64 wh,.int .i64 2,.int .i64 tx,.int .i64 at_,.int .i64 fl,.slice ra rn rc] 42)) fun e w1=>∃u,e=.returned (.tuple #[.bool true,u])/\PO (.returned (.tuple #[.bool true,u])) w1):=by
  refine Calls.mono ((h.below b0).inSee hM wh tx at_ fl ra rn rc hy1 hy2) ?_
  rintro e w1 ⟨u,rfl,q⟩
  exact⟨u,rfl,by rw[hPO];exact⟨_,rfl,q.low b0⟩⟩
 have c0:=hbx0.cell 0
 have c1:=hbx0.cell 1
 have c2:=hbx0.cell 2
 have c3:=hbx0.cell 3
 have c4:=hbx0.cell 4
 have c5:=hbx0.cell 5
 simp at c0 c1 c2 c3 c4 c5
 clear h hPO b0 hbx0
 go_enter Tryz.func13,Tryz.ntmps13
 go_wp2_with fail
 refine Calls.mono HL.out ?_
 rintro e w1 ⟨u,rfl,q⟩
 have FIN:=hid q
 clear q HL
 go_wp2_with fail
 exact FIN.out
theorem Dsk.actIWrite{B:Nat->Prop}{ob:Nat}(h:Dsk B w ob M)(hM:M<=268435455)(wh tx at_ fl:Int)(ra:Option Addr)(rn rc:Nat)(oo:Nat)(hy1:-9223372036854775808<=at_)(hy2:at_<=9223372036854775807):Calls Tryz.prog 13 #[.pointer (some ⟨ob,0,none⟩),(.agg #[.int .i64 wh,.int .i64 3,.int .i64 tx,.int .i64 at_,.int .i64 fl,.slice ra rn rc]),.pointer (some ⟨oo,0,none⟩)] w (ActW B w ob (M+1)):=by
 obtain⟨PO,hPO⟩:∃PO:Ending->World->Prop,PO=ActW B w ob (M+1):=⟨_,rfl⟩
 rw[<- hPO]
 have b0:Below w.heap.size w (w.alloc (.cells #[.int .i64 wh,.int .i64 3,.int .i64 tx,.int .i64 at_,.int .i64 fl,.slice ra rn rc] 42)):=(Below.refl _ _).alloc (Nat.le_refl _) _
 have hbx0:Bx (w.alloc (.cells #[.int .i64 wh,.int .i64 3,.int .i64 tx,.int .i64 at_,.int .i64 fl,.slice ra rn rc] 42)) w.heap.size wh 3 tx at_ fl (.slice ra rn rc):=alloc_new rfl _
 have HL:Hid (Calls Tryz.prog 40 #[.pointer (some ⟨ob,0,none⟩),(.agg #[.int .i64 wh,.int .i64 3,.int .i64 tx,.int .i64 at_,.int .i64 fl,.slice ra rn rc])] (w.alloc (.cells #[.int .i64 wh,.int .i64 3,.int .i64 tx,.int .i64 at_,.int .i64 fl,.slice ra rn rc] 42)) fun e w1=>∃u,e=.returned (.tuple #[.bool true,u])/\PO (.returned (.tuple #[.bool true,u])) w1):=by
  refine Calls.mono ((h.below b0).inWrite hM wh tx at_ fl ra rn rc hy1 hy2) ?_
  rintro e w1 ⟨u,rfl,q⟩
  exact⟨u,rfl,by rw[hPO];exact⟨_,rfl,q.low b0⟩⟩
 have c0:=hbx0.cell 0
 have c1:=hbx0.cell 1
 have c2:=hbx0.cell 2
 have c3:=hbx0.cell 3
 have c4:=hbx0.cell 4
 have c5:=hbx0.cell 5
 simp at c0 c1 c2 c3 c4 c5
 clear h hPO b0 hbx0
 go_enter Tryz.func13,Tryz.ntmps13
 go_wp2_with fail
 refine Calls.mono HL.out ?_
 rintro e w1 ⟨u,rfl,q⟩
 have FIN:=hid q
 clear q HL
 go_wp2_with fail
 exact FIN.out
theorem Dsk.actIRaw{B:Nat->Prop}{ob:Nat}(h:Dsk B w ob M)(hM:M<=268435455)(wh tx at_ fl:Int)(ra:Option Addr)(rn rc:Nat)(oo:Nat)(hy1:-9223372036854775808<=at_)(hy2:at_<=9223372036854775807)(zs:List Int)(hrn:rn<=16777216)(hraw:RdN B w ra rn zs):Calls Tryz.prog 13 #[.pointer (some ⟨ob,0,none⟩),(.agg #[.int .i64 wh,.int .i64 4,.int .i64 tx,.int .i64 at_,.int .i64 fl,.slice ra rn rc]),.pointer (some ⟨oo,0,none⟩)] w (ActW B w ob (M+1)):=by
 obtain⟨PO,hPO⟩:∃PO:Ending->World->Prop,PO=ActW B w ob (M+1):=⟨_,rfl⟩
 rw[<- hPO]
 have b0:Below w.heap.size w (w.alloc (.cells #[.int .i64 wh,.int .i64 4,.int .i64 tx,.int .i64 at_,.int .i64 fl,.slice ra rn rc] 42)):=(Below.refl _ _).alloc (Nat.le_refl _) _
 have hbx0:Bx (w.alloc (.cells #[.int .i64 wh,.int .i64 4,.int .i64 tx,.int .i64 at_,.int .i64 fl,.slice ra rn rc] 42)) w.heap.size wh 4 tx at_ fl (.slice ra rn rc):=alloc_new rfl _
 have HL:Hid (Calls Tryz.prog 40 #[.pointer (some ⟨ob,0,none⟩),(.agg #[.int .i64 wh,.int .i64 4,.int .i64 tx,.int .i64 at_,.int .i64 fl,.slice ra rn rc])] (w.alloc (.cells #[.int .i64 wh,.int .i64 4,.int .i64 tx,.int .i64 at_,.int .i64 fl,.slice ra rn rc] 42)) fun e w1=>∃u,e=.returned (.tuple #[.bool true,u])/\PO (.returned (.tuple #[.bool true,u])) w1):=by
  refine Calls.mono ((h.below b0).inRaw hM wh tx at_ fl ra rn rc hy1 hy2 zs hrn (hraw.but ((But.of_below b0).mono (X:=fun _=>False) (fun _ _ q=>q.elim)))) ?_
  rintro e w1 ⟨u,rfl,q⟩
  exact⟨u,rfl,by rw[hPO];exact⟨_,rfl,q.low b0⟩⟩
 have c0:=hbx0.cell 0
 have c1:=hbx0.cell 1
 have c2:=hbx0.cell 2
 have c3:=hbx0.cell 3
 have c4:=hbx0.cell 4
 have c5:=hbx0.cell 5
 simp at c0 c1 c2 c3 c4 c5
 clear h hPO b0 hbx0 hraw
 go_enter Tryz.func13,Tryz.ntmps13
 go_wp2_with fail
 refine Calls.mono HL.out ?_
 rintro e w1 ⟨u,rfl,q⟩
 have FIN:=hid q
 clear q HL
 go_wp2_with fail
 exact FIN.out
theorem Dsk.actIMark{B:Nat->Prop}{ob:Nat}(h:Dsk B w ob M)(hM:M<=268435455)(wh tx at_ fl:Int)(ra:Option Addr)(rn rc:Nat)(oo:Nat):Calls Tryz.prog 13 #[.pointer (some ⟨ob,0,none⟩),(.agg #[.int .i64 wh,.int .i64 5,.int .i64 tx,.int .i64 at_,.int .i64 fl,.slice ra rn rc]),.pointer (some ⟨oo,0,none⟩)] w (ActW B w ob (M+1)):=by
 obtain⟨PO,hPO⟩:∃PO:Ending->World->Prop,PO=ActW B w ob (M+1):=⟨_,rfl⟩
 rw[<- hPO]
 have b0:Below w.heap.size w (w.alloc (.cells #[.int .i64 wh,.int .i64 5,.int .i64 tx,.int .i64 at_,.int .i64 fl,.slice ra rn rc] 42)):=(Below.refl _ _).alloc (Nat.le_refl _) _
 have hbx0:Bx (w.alloc (.cells #[.int .i64 wh,.int .i64 5,.int .i64 tx,.int .i64 at_,.int .i64 fl,.slice ra rn rc] 42)) w.heap.size wh 5 tx at_ fl (.slice ra rn rc):=alloc_new rfl _
 have HL:Hid (Calls Tryz.prog 40 #[.pointer (some ⟨ob,0,none⟩),(.agg #[.int .i64 wh,.int .i64 5,.int .i64 tx,.int .i64 at_,.int .i64 fl,.slice ra rn rc])] (w.alloc (.cells #[.int .i64 wh,.int .i64 5,.int .i64 tx,.int .i64 at_,.int .i64 fl,.slice ra rn rc] 42)) fun e w1=>∃u,e=.returned (.tuple #[.bool true,u])/\PO (.returned (.tuple #[.bool true,u])) w1):=by
  refine Calls.mono ((h.below b0).inMark hM wh tx at_ fl ra rn rc) ?_
  rintro e w1 ⟨u,rfl,q⟩
  exact⟨u,rfl,by rw[hPO];exact⟨_,rfl,q.low b0⟩⟩
 have c0:=hbx0.cell 0
 have c1:=hbx0.cell 1
 have c2:=hbx0.cell 2
 have c3:=hbx0.cell 3
 have c4:=hbx0.cell 4
 have c5:=hbx0.cell 5
 simp at c0 c1 c2 c3 c4 c5
 clear h hPO b0 hbx0
 go_enter Tryz.func13,Tryz.ntmps13
 go_wp2_with fail
 refine Calls.mono HL.out ?_
 rintro e w1 ⟨u,rfl,q⟩
 have FIN:=hid q
 clear q HL
 go_wp2_with fail
 exact FIN.out
theorem Dsk.actIBack{B:Nat->Prop}{ob:Nat}(h:Dsk B w ob M)(hM:M<=268435455)(wh tx at_ fl:Int)(ra:Option Addr)(rn rc:Nat)(oo:Nat):Calls Tryz.prog 13 #[.pointer (some ⟨ob,0,none⟩),(.agg #[.int .i64 wh,.int .i64 6,.int .i64 tx,.int .i64 at_,.int .i64 fl,.slice ra rn rc]),.pointer (some ⟨oo,0,none⟩)] w (ActW B w ob (M+1)):=by
 obtain⟨PO,hPO⟩:∃PO:Ending->World->Prop,PO=ActW B w ob (M+1):=⟨_,rfl⟩
 rw[<- hPO]
 have b0:Below w.heap.size w (w.alloc (.cells #[.int .i64 wh,.int .i64 6,.int .i64 tx,.int .i64 at_,.int .i64 fl,.slice ra rn rc] 42)):=(Below.refl _ _).alloc (Nat.le_refl _) _
 have hbx0:Bx (w.alloc (.cells #[.int .i64 wh,.int .i64 6,.int .i64 tx,.int .i64 at_,.int .i64 fl,.slice ra rn rc] 42)) w.heap.size wh 6 tx at_ fl (.slice ra rn rc):=alloc_new rfl _
 have HL:Hid (Calls Tryz.prog 40 #[.pointer (some ⟨ob,0,none⟩),(.agg #[.int .i64 wh,.int .i64 6,.int .i64 tx,.int .i64 at_,.int .i64 fl,.slice ra rn rc])] (w.alloc (.cells #[.int .i64 wh,.int .i64 6,.int .i64 tx,.int .i64 at_,.int .i64 fl,.slice ra rn rc] 42)) fun e w1=>∃u,e=.returned (.tuple #[.bool true,u])/\PO (.returned (.tuple #[.bool true,u])) w1):=by
  refine Calls.mono ((h.below b0).inBack hM wh tx at_ fl ra rn rc) ?_
  rintro e w1 ⟨u,rfl,q⟩
  exact⟨u,rfl,by rw[hPO];exact⟨_,rfl,q.low b0⟩⟩
 have c0:=hbx0.cell 0
 have c1:=hbx0.cell 1
 have c2:=hbx0.cell 2
 have c3:=hbx0.cell 3
 have c4:=hbx0.cell 4
 have c5:=hbx0.cell 5
 simp at c0 c1 c2 c3 c4 c5
 clear h hPO b0 hbx0
 go_enter Tryz.func13,Tryz.ntmps13
 go_wp2_with fail
 refine Calls.mono HL.out ?_
 rintro e w1 ⟨u,rfl,q⟩
 have FIN:=hid q
 clear q HL
 go_wp2_with fail
 exact FIN.out
theorem Dsk.actICommit{B:Nat->Prop}{ob:Nat}(h:Dsk B w ob M)(hM:M<=268435455)(wh tx at_ fl:Int)(ra:Option Addr)(rn rc:Nat)(oo:Nat):Calls Tryz.prog 13 #[.pointer (some ⟨ob,0,none⟩),(.agg #[.int .i64 wh,.int .i64 8,.int .i64 tx,.int .i64 at_,.int .i64 fl,.slice ra rn rc]),.pointer (some ⟨oo,0,none⟩)] w (ActW B w ob (M+1)):=by
 obtain⟨PO,hPO⟩:∃PO:Ending->World->Prop,PO=ActW B w ob (M+1):=⟨_,rfl⟩
 rw[<- hPO]
 have b0:Below w.heap.size w (w.alloc (.cells #[.int .i64 wh,.int .i64 8,.int .i64 tx,.int .i64 at_,.int .i64 fl,.slice ra rn rc] 42)):=(Below.refl _ _).alloc (Nat.le_refl _) _
 have hbx0:Bx (w.alloc (.cells #[.int .i64 wh,.int .i64 8,.int .i64 tx,.int .i64 at_,.int .i64 fl,.slice ra rn rc] 42)) w.heap.size wh 8 tx at_ fl (.slice ra rn rc):=alloc_new rfl _
 have HL:Hid (Calls Tryz.prog 40 #[.pointer (some ⟨ob,0,none⟩),(.agg #[.int .i64 wh,.int .i64 8,.int .i64 tx,.int .i64 at_,.int .i64 fl,.slice ra rn rc])] (w.alloc (.cells #[.int .i64 wh,.int .i64 8,.int .i64 tx,.int .i64 at_,.int .i64 fl,.slice ra rn rc] 42)) fun e w1=>∃u,e=.returned (.tuple #[.bool true,u])/\PO (.returned (.tuple #[.bool true,u])) w1):=by
  refine Calls.mono ((h.below b0).inCommit hM wh tx at_ fl ra rn rc) ?_
  rintro e w1 ⟨u,rfl,q⟩
  exact⟨u,rfl,by rw[hPO];exact⟨_,rfl,q.low b0⟩⟩
 have c0:=hbx0.cell 0
 have c1:=hbx0.cell 1
 have c2:=hbx0.cell 2
 have c3:=hbx0.cell 3
 have c4:=hbx0.cell 4
 have c5:=hbx0.cell 5
 simp at c0 c1 c2 c3 c4 c5
 clear h hPO b0 hbx0
 go_enter Tryz.func13,Tryz.ntmps13
 go_wp2_with fail
 refine Calls.mono HL.out ?_
 rintro e w1 ⟨u,rfl,q⟩
 have FIN:=hid q
 clear q HL
 go_wp2_with fail
 exact FIN.out
theorem Dsk.actIAbort{B:Nat->Prop}{ob:Nat}(h:Dsk B w ob M)(hM:M<=268435455)(wh tx at_ fl:Int)(ra:Option Addr)(rn rc:Nat)(oo:Nat):Calls Tryz.prog 13 #[.pointer (some ⟨ob,0,none⟩),(.agg #[.int .i64 wh,.int .i64 9,.int .i64 tx,.int .i64 at_,.int .i64 fl,.slice ra rn rc]),.pointer (some ⟨oo,0,none⟩)] w (ActW B w ob (M+1)):=by
 obtain⟨PO,hPO⟩:∃PO:Ending->World->Prop,PO=ActW B w ob (M+1):=⟨_,rfl⟩
 rw[<- hPO]
 have b0:Below w.heap.size w (w.alloc (.cells #[.int .i64 wh,.int .i64 9,.int .i64 tx,.int .i64 at_,.int .i64 fl,.slice ra rn rc] 42)):=(Below.refl _ _).alloc (Nat.le_refl _) _
 have hbx0:Bx (w.alloc (.cells #[.int .i64 wh,.int .i64 9,.int .i64 tx,.int .i64 at_,.int .i64 fl,.slice ra rn rc] 42)) w.heap.size wh 9 tx at_ fl (.slice ra rn rc):=alloc_new rfl _
 have HL:Hid (Calls Tryz.prog 40 #[.pointer (some ⟨ob,0,none⟩),(.agg #[.int .i64 wh,.int .i64 9,.int .i64 tx,.int .i64 at_,.int .i64 fl,.slice ra rn rc])] (w.alloc (.cells #[.int .i64 wh,.int .i64 9,.int .i64 tx,.int .i64 at_,.int .i64 fl,.slice ra rn rc] 42)) fun e w1=>∃u,e=.returned (.tuple #[.bool true,u])/\PO (.returned (.tuple #[.bool true,u])) w1):=by
  refine Calls.mono ((h.below b0).inAbort hM wh 9 tx at_ fl ra rn rc (by decide) (by decide) (by decide) (by decide) (by decide) (by decide)) ?_
  rintro e w1 ⟨u,rfl,q⟩
  exact⟨u,rfl,by rw[hPO];exact⟨_,rfl,q.low b0⟩⟩
 have c0:=hbx0.cell 0
 have c1:=hbx0.cell 1
 have c2:=hbx0.cell 2
 have c3:=hbx0.cell 3
 have c4:=hbx0.cell 4
 have c5:=hbx0.cell 5
 simp at c0 c1 c2 c3 c4 c5
 clear h hPO b0 hbx0
 go_enter Tryz.func13,Tryz.ntmps13
 go_wp2_with fail
 refine Calls.mono HL.out ?_
 rintro e w1 ⟨u,rfl,q⟩
 have FIN:=hid q
 clear q HL
 go_wp2_with fail
 exact FIN.out
open Go.RowKit Go.Deep
theorem Dsk.actBegin{B:Nat->Prop}{ob:Nat}(h:Dsk B w ob M)(hM:M<=268435455)(wh tx at_ fl:Int)(ra:Option Addr)(rn rc:Nat)(oo:Nat):Calls Tryz.prog 13 #[.pointer (some ⟨ob,0,none⟩),(.agg #[.int .i64 wh,.int .i64 7,.int .i64 tx,.int .i64 at_,.int .i64 fl,.slice ra rn rc]),.pointer (some ⟨oo,0,none⟩)] w (ActW B w ob (M+1)):=by
 obtain⟨PO,hPO⟩:∃PO:Ending->World->Prop,PO=ActW B w ob (M+1):=⟨_,rfl⟩
 rw[<- hPO]
 have b0:Below w.heap.size w (w.alloc (.cells #[.int .i64 wh,.int .i64 7,.int .i64 tx,.int .i64 at_,.int .i64 fl,.slice ra rn rc] 42)):=(Below.refl _ _).alloc (Nat.le_refl _) _
 have hbx0:Bx (w.alloc (.cells #[.int .i64 wh,.int .i64 7,.int .i64 tx,.int .i64 at_,.int .i64 fl,.slice ra rn rc] 42)) w.heap.size wh 7 tx at_ fl (.slice ra rn rc):=alloc_new rfl _
 obtain⟨Y,v,h,hr,hB⟩:=h
 have hAB:¬B w.heap.size:=fun e=>by
  have:=h.lt ((hB _).1 e)
  omega
 have hAY:¬Y w.heap.size:=fun e=>hAB ((hB _).2 (.inl e))
 have HL:Hid (Calls Tryz.prog 41 #[.pointer (some ⟨ob,0,none⟩)] (w.alloc (.cells #[.int .i64 wh,.int .i64 7,.int .i64 tx,.int .i64 at_,.int .i64 fl,.slice ra rn rc] 42)) fun e w1=>e=.returned (.bool true)/\PO (.returned (.tuple #[.bool true,.slice none 0 0])) w1):=by
  refine Calls.mono ((h.low b0).begin41 hr hB hM) ?_
  rintro e w1 ⟨rfl,q⟩
  exact⟨rfl,by rw[hPO];exact⟨_,rfl,(DskS.v q).low b0⟩⟩
 have kk:=hbx0.cell 1
 simp at kk
 clear h hr hB hPO b0 hbx0 hAB hAY
 go_enter Tryz.func13,Tryz.ntmps13
 go_wp2_with fail
 refine Calls.mono HL.out ?_
 rintro e w1 ⟨rfl,q⟩
 have FIN:=hid q
 clear q HL
 go_wp2_with fail
 exact FIN.out
theorem Dsk.actOff{B:Nat->Prop}{ob:Nat}(h:Dsk B w ob M)(hM:M<=268435455)(wh tx at_ fl:Int)(ra:Option Addr)(rn rc:Nat)(oo:Nat):Calls Tryz.prog 13 #[.pointer (some ⟨ob,0,none⟩),(.agg #[.int .i64 wh,.int .i64 12,.int .i64 tx,.int .i64 at_,.int .i64 fl,.slice ra rn rc]),.pointer (some ⟨oo,0,none⟩)] w (ActW B w ob (M+1)):=by
 obtain⟨PO,hPO⟩:∃PO:Ending->World->Prop,PO=ActW B w ob (M+1):=⟨_,rfl⟩
 rw[<- hPO]
 have b0:Below w.heap.size w (w.alloc (.cells #[.int .i64 wh,.int .i64 12,.int .i64 tx,.int .i64 at_,.int .i64 fl,.slice ra rn rc] 42)):=(Below.refl _ _).alloc (Nat.le_refl _) _
 have hbx0:Bx (w.alloc (.cells #[.int .i64 wh,.int .i64 12,.int .i64 tx,.int .i64 at_,.int .i64 fl,.slice ra rn rc] 42)) w.heap.size wh 12 tx at_ fl (.slice ra rn rc):=alloc_new rfl _
 obtain⟨Y,v,h,hr,hB⟩:=h
 have hAB:¬B w.heap.size:=fun e=>by
  have:=h.lt ((hB _).1 e)
  omega
 have hAY:¬Y w.heap.size:=fun e=>hAB ((hB _).2 (.inl e))
 have HL:Hid (Calls Tryz.prog 45 #[.pointer (some ⟨ob,0,none⟩)] (w.alloc (.cells #[.int .i64 wh,.int .i64 12,.int .i64 tx,.int .i64 at_,.int .i64 fl,.slice ra rn rc] 42)) fun e w1=>e=.returned (.bool true)/\PO (.returned (.tuple #[.bool true,.slice none 0 0])) w1):=by
  refine Calls.mono ((h.low b0).off45 hr hB hM) ?_
  rintro e w1 ⟨rfl,q⟩
  exact⟨rfl,by rw[hPO];exact⟨_,rfl,(DskS.v q).low b0⟩⟩
 have kk:=hbx0.cell 1
 simp at kk
 clear h hr hB hPO b0 hbx0 hAB hAY
 go_enter Tryz.func13,Tryz.ntmps13
 go_wp2_with fail
 refine Calls.mono HL.out ?_
 rintro e w1 ⟨rfl,q⟩
 have FIN:=hid q
 clear q HL
 go_wp2_with fail
 exact FIN.out
theorem Dsk.actFlush{B:Nat->Prop}{ob:Nat}(h:Dsk B w ob M)(hM:M<=268435455)(wh tx at_ fl:Int)(ra:Option Addr)(rn rc:Nat)(oo:Nat):Calls Tryz.prog 13 #[.pointer (some ⟨ob,0,none⟩),(.agg #[.int .i64 wh,.int .i64 10,.int .i64 tx,.int .i64 at_,.int .i64 fl,.slice ra rn rc]),.pointer (some ⟨oo,0,none⟩)] w (ActW B w ob (M+1)):=by
 obtain⟨PO,hPO⟩:∃PO:Ending->World->Prop,PO=ActW B w ob (M+1):=⟨_,rfl⟩
 rw[<- hPO]
 have b0:Below w.heap.size w (w.alloc (.cells #[.int .i64 wh,.int .i64 10,.int .i64 tx,.int .i64 at_,.int .i64 fl,.slice ra rn rc] 42)):=(Below.refl _ _).alloc (Nat.le_refl _) _
 have hbx0:Bx (w.alloc (.cells #[.int .i64 wh,.int .i64 10,.int .i64 tx,.int .i64 at_,.int .i64 fl,.slice ra rn rc] 42)) w.heap.size wh 10 tx at_ fl (.slice ra rn rc):=alloc_new rfl _
 obtain⟨Y,v,h,hr,hB⟩:=h
 have hAB:¬B w.heap.size:=fun e=>by
  have:=h.lt ((hB _).1 e)
  omega
 have hAY:¬Y w.heap.size:=fun e=>hAB ((hB _).2 (.inl e))
 have h0:=h.low b0
 have hc:=h0.R.cells
 obtain⟨ss,hss⟩:∃ss,ss=v.st:=⟨_,rfl⟩
 obtain⟨rr,hrr⟩:∃rr,rr=v.r.rb:=⟨_,rfl⟩
 have HL:Hid (Calls Tryz.prog 30 #[.pointer (some ⟨ss,0,none⟩)] (w.alloc (.cells #[.int .i64 wh,.int .i64 10,.int .i64 tx,.int .i64 at_,.int .i64 fl,.slice ra rn rc] 42)) fun e w1=>∃code,e=.returned (.int .i64 code)/\w1.cell? ⟨ob,2,none⟩=some (.pointer (some ⟨rr,0,none⟩))/\Calls Tryz.prog 42 #[.pointer (some ⟨rr,0,none⟩)] w1 fun e' w2=>e'=.returned (.int .i64 code)/\PO (.returned (.tuple #[.bool true,.slice none 0 0])) w2):=by
  rw[hss,hrr]
  refine Calls.mono (h0.flushBoth hr hB hM) ?_
  rintro e w1 ⟨code,rfl,hR1,q⟩
  refine⟨code,rfl,hR1.cells.2.2.1,Calls.mono q ?_⟩
  rintro e' w2 ⟨rfl,q⟩
  exact⟨rfl,by rw[hPO];exact⟨_,rfl,(DskS.v q).low b0⟩⟩
 have HZ:Hid (∀x (W:World),Calls Tryz.prog 39 #[.int .i64 x] W fun e w'=>e=.returned (.int .i64 x)/\w'=W):=fun x W=>num_any x W
 have c1:=hc.2.1
 unfold ptrV at c1
 rw[<- hss]at c1
 have kk:=hbx0.cell 1
 simp at kk
 clear h hr hB hPO b0 hbx0 hAB hAY h0 hc hss hrr
 go_enter Tryz.func13,Tryz.ntmps13
 go_wp2_with fail
 refine Calls.mono HL.out ?_
 rintro e w1 ⟨code,rfl,d2,q⟩
 have H2:=hid q
 clear q HL c1
 go_wp2_with fail
 refine Calls.mono H2.out ?_
 rintro e w2 ⟨rfl,q⟩
 have FIN:=hid q
 clear q H2 d2
 go_wp2_with fail
 refine Calls.mono (HZ.out _ _) ?_
 rintro e w9 ⟨rfl,hw9⟩
 rw[hw9]
 clear hw9
 go_wp2_with fail
 exact FIN.out
open Go.RowKit Go.Deep
theorem Dsk.actOwnsEven{B:Nat->Prop}{ob:Nat}(h:Dsk B w ob M)(hM:M<=268435455)(wh tx at_ fl:Int)(ra:Option Addr)(rn rc:Nat)(oo:Nat)(hf:(bits .and .i64 fl 1 == 1)=false):Calls Tryz.prog 13 #[.pointer (some ⟨ob,0,none⟩),(.agg #[.int .i64 wh,.int .i64 11,.int .i64 tx,.int .i64 at_,.int .i64 fl,.slice ra rn rc]),.pointer (some ⟨oo,0,none⟩)] w (ActW B w ob (M+1)):=by
 obtain⟨PO,hPO⟩:∃PO:Ending->World->Prop,PO=ActW B w ob (M+1):=⟨_,rfl⟩
 rw[<- hPO]
 have b0:Below w.heap.size w (w.alloc (.cells #[.int .i64 wh,.int .i64 11,.int .i64 tx,.int .i64 at_,.int .i64 fl,.slice ra rn rc] 42)):=(Below.refl _ _).alloc (Nat.le_refl _) _
 have hbx0:Bx (w.alloc (.cells #[.int .i64 wh,.int .i64 11,.int .i64 tx,.int .i64 at_,.int .i64 fl,.slice ra rn rc] 42)) w.heap.size wh 11 tx at_ fl (.slice ra rn rc):=alloc_new rfl _
 obtain⟨Y,v,h,hr,hB⟩:=h
 have hAB:¬B w.heap.size:=fun e=>by
  have:=h.lt ((hB _).1 e)
  omega
 have hAY:¬Y w.heap.size:=fun e=>hAB ((hB _).2 (.inl e))
 have h0:=h.low b0
 obtain⟨ss,hss⟩:∃ss,ss=v.st:=⟨_,rfl⟩
 obtain⟨rr,hrr⟩:∃rr,rr=v.r.rb:=⟨_,rfl⟩
 have HL:Hid (Calls Tryz.prog 43 #[.pointer (some ⟨ob,0,none⟩),.int .i64 tx] (w.alloc (.cells #[.int .i64 wh,.int .i64 11,.int .i64 tx,.int .i64 at_,.int .i64 fl,.slice ra rn rc] 42)) fun e w2=>∃tv rv,e=.returned (.tuple #[tv,rv])/\w2.cell? ⟨w.heap.size,4,none⟩=some (.int .i64 fl)/\(w2.cell? ⟨ob,1,none⟩=some (.pointer (some ⟨ss,0,none⟩))/\Calls Tryz.prog 31 #[.pointer (some ⟨ss,0,none⟩),tv] w2 fun e w3=>∃code,e=.returned (.int .i64 code)/\w3.cell? ⟨ob,2,none⟩=some (.pointer (some ⟨rr,0,none⟩))/\Calls Tryz.prog 44 #[.pointer (some ⟨rr,0,none⟩),rv] w3 fun e' w4=>e'=.returned (.int .i64 code)/\PO (.returned (.tuple #[.bool true,.slice none 0 0])) w4)):=by
  rw[hss,hrr]
  refine Calls.mono (h0.pick43 hr hB hM tx) ?_
  rintro e w2 ⟨tv,rv,who,rfl,hp,hDD,b1⟩
  have bw2:Below w.heap.size w w2:=b0.trans (b1.mono b0.size)
  have hb1:=hbx0.low b1
  have j4:=hb1.cell 4
  simp at j4
  refine⟨tv,rv,rfl,j4,hDD.R.cells.2.1,Calls.mono (hDD.ownsBoth hr hp) ?_⟩
  rintro e w3 ⟨code,rfl,hR3,bb,q⟩
  refine⟨code,rfl,hR3.cells.2.2.1,Calls.mono q ?_⟩
  rintro e' w4 ⟨rfl,rfl⟩
  (
   have hid0:DskS B w w4 ob (M+1):=⟨B,⟨Y,v,hDD.low bb,hr.mono (Nat.le_succ M),hB⟩,fun _ _ e=>e,(But.of_below (bw2.trans (bb.mono bw2.size)))⟩
   exact⟨rfl,by rw[hPO];exact⟨_,rfl,DskS.v hid0⟩⟩
  )
 have HZ:Hid (∀x (W:World),Calls Tryz.prog 39 #[.int .i64 x] W fun e w'=>e=.returned (.int .i64 x)/\w'=W):=fun x W=>num_any x W
 have kk:=hbx0.cell 1
 have kx:=hbx0.cell 2
 simp at kk kx
 clear h hr hB hPO b0 hbx0 hAB hAY h0 hss hrr
 go_enter Tryz.func13,Tryz.ntmps13
 go_wp2_with fail
 refine Calls.mono HL.out ?_
 rintro e w2 ⟨tv,rv,rfl,k4,c1,q⟩
 have H2:=hid q
 clear q HL kx kk
 go_wp2_with fail
 refine Calls.mono H2.out ?_
 rintro e w3 ⟨code,rfl,d2,q⟩
 have H3:=hid q
 clear q H2
 go_wp2_with fail
 refine Calls.mono H3.out ?_
 rintro e w4 ⟨rfl,q⟩
 have FIN:=hid q
 clear q H3 d2
 go_wp2_with fail
 refine Calls.mono (HZ.out _ _) ?_
 rintro e w9 ⟨rfl,hw9⟩
 rw[hw9]
 clear hw9
 go_wp2_with fail
 exact FIN.out
theorem Dsk.actOwnsOdd{B:Nat->Prop}{ob:Nat}(h:Dsk B w ob M)(hM:M<=268435455)(wh tx at_ fl:Int)(ra:Option Addr)(rn rc:Nat)(oo:Nat){B2:Nat->Prop}{M2:Nat}(h2:Dsk B2 w oo M2)(hM2:M2<=268435455)(hdj:∀k,B k->¬B2 k)(hf:(bits .and .i64 fl 1 == 1)=true):Calls Tryz.prog 13 #[.pointer (some ⟨ob,0,none⟩),(.agg #[.int .i64 wh,.int .i64 11,.int .i64 tx,.int .i64 at_,.int .i64 fl,.slice ra rn rc]),.pointer (some ⟨oo,0,none⟩)] w (ActW B w ob (M+1)):=by
 obtain⟨PO,hPO⟩:∃PO:Ending->World->Prop,PO=ActW B w ob (M+1):=⟨_,rfl⟩
 rw[<- hPO]
 have b0:Below w.heap.size w (w.alloc (.cells #[.int .i64 wh,.int .i64 11,.int .i64 tx,.int .i64 at_,.int .i64 fl,.slice ra rn rc] 42)):=(Below.refl _ _).alloc (Nat.le_refl _) _
 have hbx0:Bx (w.alloc (.cells #[.int .i64 wh,.int .i64 11,.int .i64 tx,.int .i64 at_,.int .i64 fl,.slice ra rn rc] 42)) w.heap.size wh 11 tx at_ fl (.slice ra rn rc):=alloc_new rfl _
 obtain⟨Y,v,h,hr,hB⟩:=h
 have hAB:¬B w.heap.size:=fun e=>by
  have:=h.lt ((hB _).1 e)
  omega
 have hAY:¬Y w.heap.size:=fun e=>hAB ((hB _).2 (.inl e))
 obtain⟨Y2,v2,h2,hr2,hB2⟩:=h2
 have h0:=h.low b0
 have h20:=h2.low b0
 have hst:v2.st≠v.st:=fun e=>by
  obtain⟨_,_,_,_,_,y1⟩:=h.P.pg.jq
  obtain⟨_,_,_,_,_,y2⟩:=h2.P.pg.jq
  exact hdj _ ((hB _).2 (.inl y1)) ((hB2 _).2 (.inl (e ▸ y2)))
 have hrb:v2.r.rb≠v.r.rb:=fun e=>hdj v.r.rb ((hB _).2 (.inr (.inl (.inl (.inl rfl))))) ((hB2 _).2 (.inr (.inl (.inl (.inl e.symm)))))
 obtain⟨ss,hss⟩:∃ss,ss=v.st:=⟨_,rfl⟩
 obtain⟨rr,hrr⟩:∃rr,rr=v.r.rb:=⟨_,rfl⟩
 have HL:Hid (Calls Tryz.prog 43 #[.pointer (some ⟨ob,0,none⟩),.int .i64 tx] (w.alloc (.cells #[.int .i64 wh,.int .i64 11,.int .i64 tx,.int .i64 at_,.int .i64 fl,.slice ra rn rc] 42)) fun e w1=>∃tv rv,e=.returned (.tuple #[tv,rv])/\w1.cell? ⟨w.heap.size,4,none⟩=some (.int .i64 fl)/\w1.cell? ⟨w.heap.size,2,none⟩=some (.int .i64 tx)/\Calls Tryz.prog 43 #[.pointer (some ⟨oo,0,none⟩),.int .i64 tx] w1 fun e w2=>∃tv rv,e=.returned (.tuple #[tv,rv])/\(w2.cell? ⟨ob,1,none⟩=some (.pointer (some ⟨ss,0,none⟩))/\Calls Tryz.prog 31 #[.pointer (some ⟨ss,0,none⟩),tv] w2 fun e w3=>∃code,e=.returned (.int .i64 code)/\w3.cell? ⟨ob,2,none⟩=some (.pointer (some ⟨rr,0,none⟩))/\Calls Tryz.prog 44 #[.pointer (some ⟨rr,0,none⟩),rv] w3 fun e' w4=>e'=.returned (.int .i64 code)/\PO (.returned (.tuple #[.bool true,.slice none 0 0])) w4)):=by
  rw[hss,hrr]
  refine Calls.mono (h0.pick43 hr hB hM tx) ?_
  rintro e w1 ⟨tv0,rv0,who0,rfl,_,hD1,b1⟩
  have hb1:=hbx0.low b1
  have j4:=hb1.cell 4
  have j2:=hb1.cell 2
  simp at j4 j2
  refine⟨tv0,rv0,rfl,j4,j2,Calls.mono ((h20.low b1).pick43 hr2 hB2 hM2 tx) ?_⟩
  rintro e w2 ⟨tv,rv,who,rfl,hp,hD2,b2⟩
  have hDD:=hD1.low b2
  have bw2:Below w.heap.size w w2:=(b0.trans (b1.mono b0.size)).trans (b2.mono (Nat.le_trans b0.size b1.size))
  refine⟨tv,rv,rfl,hDD.R.cells.2.1,Calls.mono (hDD.ownsBoth2 hr hD2 hst hrb hp) ?_⟩
  rintro e w3 ⟨code,rfl,hR3,bb,q⟩
  refine⟨code,rfl,hR3.cells.2.2.1,Calls.mono q ?_⟩
  rintro e' w4 ⟨rfl,rfl⟩
  (
   have hid0:DskS B w w4 ob (M+1):=⟨B,⟨Y,v,hDD.low bb,hr.mono (Nat.le_succ M),hB⟩,fun _ _ e=>e,(But.of_below (bw2.trans (bb.mono bw2.size)))⟩
   exact⟨rfl,by rw[hPO];exact⟨_,rfl,DskS.v hid0⟩⟩
  )
 have HZ:Hid (∀x (W:World),Calls Tryz.prog 39 #[.int .i64 x] W fun e w'=>e=.returned (.int .i64 x)/\w'=W):=fun x W=>num_any x W
 have kk:=hbx0.cell 1
 have kx:=hbx0.cell 2
 simp at kk kx
 clear h hr hB hPO b0 hbx0 hAB hAY h0 hss hrr h2 hr2 hB2 h20 hst hrb hdj
 go_enter Tryz.func13,Tryz.ntmps13
 go_wp2_with fail
 refine Calls.mono HL.out ?_
 rintro e w1 ⟨tv0,rv0,rfl,k4,k2,q⟩
 have H1:=hid q
 clear q HL kx kk
 go_wp2_with fail
 refine Calls.mono H1.out ?_
 rintro e w2 ⟨tv,rv,rfl,c1,q⟩
 have H2:=hid q
 clear q H1
 go_wp2_with fail
 refine Calls.mono H2.out ?_
 rintro e w3 ⟨code,rfl,d2,q⟩
 have H3:=hid q
 clear q H2
 go_wp2_with fail
 refine Calls.mono H3.out ?_
 rintro e w4 ⟨rfl,q⟩
 have FIN:=hid q
 clear q H3 d2
 go_wp2_with fail
 refine Calls.mono (HZ.out _ _) ?_
 rintro e w9 ⟨rfl,hw9⟩
 rw[hw9]
 clear hw9
 go_wp2_with fail
 exact FIN.out
theorem Dsk.actOther{B:Nat->Prop}{ob:Nat}(h:Dsk B w ob M)(hM:M<=268435455)(wh kd tx at_ fl:Int)(ra:Option Addr)(rn rc:Nat)(oo:Nat)(n1:(kd == 1)=false)(n2:(kd == 2)=false)(n3:(kd == 3)=false)(n4:(kd == 4)=false)(n5:(kd == 5)=false)(n6:(kd == 6)=false)(n7:(kd == 7)=false)(n8:(kd == 8)=false)(n9:(kd == 9)=false)(n10:(kd == 10)=false)(n11:(kd == 11)=false)(n12:(kd == 12)=false):Calls Tryz.prog 13 #[.pointer (some ⟨ob,0,none⟩),(.agg #[.int .i64 wh,.int .i64 kd,.int .i64 tx,.int .i64 at_,.int .i64 fl,.slice ra rn rc]),.pointer (some ⟨oo,0,none⟩)] w (ActW B w ob (M+1)):=by
 obtain⟨PO,hPO⟩:∃PO:Ending->World->Prop,PO=ActW B w ob (M+1):=⟨_,rfl⟩
 rw[<- hPO]
 have b0:Below w.heap.size w (w.alloc (.cells #[.int .i64 wh,.int .i64 kd,.int .i64 tx,.int .i64 at_,.int .i64 fl,.slice ra rn rc] 42)):=(Below.refl _ _).alloc (Nat.le_refl _) _
 have hbx0:Bx (w.alloc (.cells #[.int .i64 wh,.int .i64 kd,.int .i64 tx,.int .i64 at_,.int .i64 fl,.slice ra rn rc] 42)) w.heap.size wh kd tx at_ fl (.slice ra rn rc):=alloc_new rfl _
 obtain⟨Y,v,h,hr,hB⟩:=h
 have hAB:¬B w.heap.size:=fun e=>by
  have:=h.lt ((hB _).1 e)
  omega
 have hAY:¬Y w.heap.size:=fun e=>hAB ((hB _).2 (.inl e))
 have FIN:Hid (PO (.returned (.tuple #[.bool true,.slice none 0 0])) (w.alloc (.cells #[.int .i64 wh,.int .i64 kd,.int .i64 tx,.int .i64 at_,.int .i64 fl,.slice ra rn rc] 42))):=by
  rw[hPO]
  exact⟨_,rfl,DskS.v ⟨B,⟨Y,v,h.low b0,hr.mono (Nat.le_succ M),hB⟩,fun _ _ e=>e,But.of_below b0⟩⟩
 have kk:=hbx0.cell 1
 simp at kk
 have _:=hM
 clear h hr hB hPO b0 hbx0 hAB hAY hM
 go_enter Tryz.func13,Tryz.ntmps13
 go_wp2_with fail
 exact FIN.out
open Go.RowKit Go.Deep
structure Aw where
 wh:Int
 kd:Int
 tx:Int
 at_:Int
 fl:Int
 ra:Option Addr
 rn:Nat
 rc:Nat
def Aw.cells (a:Aw):Array Value:=#[.int .i64 a.wh,.int .i64 a.kd,.int .i64 a.tx,.int .i64 a.at_,.int .i64 a.fl,.slice a.ra a.rn a.rc]
def Aw.val (a:Aw):Value:=.agg a.cells
structure AwOk (B:Nat->Prop) (w:World) (a:Aw):Prop where
 lo:-9223372036854775808<=a.at_
 hi:a.at_<=9223372036854775807
 rn:a.rn<=16777216
 raw:∃zs,RdN B w a.ra a.rn zs
theorem Dsk.act{B:Nat->Prop}{ob:Nat}(h:Dsk B w ob M)(hM:M<=268435455){B2:Nat->Prop}{oo M2:Nat}(h2:Dsk B2 w oo M2)(hM2:M2<=268435455)(hdj:∀k,B k->¬B2 k)(a:Aw)(ha:AwOk B w a):Calls Tryz.prog 13 #[.pointer (some ⟨ob,0,none⟩),a.val,.pointer (some ⟨oo,0,none⟩)] w (ActW B w ob (M+1)):=by
 obtain⟨wh,kd,tx,at_,fl,ra,rn,rc⟩:=a
 obtain⟨h3,h4,h5,zs,h6⟩:=ha
 unfold Aw.val Aw.cells
 simp only at h3 h4 h5 h6 ⊢
 by_cases e1:kd=1
 ·rw[e1];exact h.actRead hM _ _ _ _ _ _ _ _
 by_cases e2:kd=2
 ·rw[e2];exact h.actISee hM _ _ _ _ _ _ _ _ h3 h4
 by_cases e3:kd=3
 ·rw[e3];exact h.actIWrite hM _ _ _ _ _ _ _ _ h3 h4
 by_cases e4:kd=4
 ·rw[e4];exact h.actIRaw hM _ _ _ _ _ _ _ _ h3 h4 zs h5 h6
 by_cases e5:kd=5
 ·rw[e5];exact h.actIMark hM _ _ _ _ _ _ _ _
 by_cases e6:kd=6
 ·rw[e6];exact h.actIBack hM _ _ _ _ _ _ _ _
 by_cases e7:kd=7
 ·rw[e7];exact h.actBegin hM _ _ _ _ _ _ _ _
 by_cases e8:kd=8
 ·rw[e8];exact h.actICommit hM _ _ _ _ _ _ _ _
 by_cases e9:kd=9
 ·rw[e9];exact h.actIAbort hM _ _ _ _ _ _ _ _
 by_cases e10:kd=10
 ·rw[e10];exact h.actFlush hM _ _ _ _ _ _ _ _
 by_cases e11:kd=11
 ·rw[e11]
  by_cases e:(bits .and .i64 fl 1 == 1)=true
  ·exact h.actOwnsOdd hM _ _ _ _ _ _ _ _ h2 hM2 hdj e
  ·exact h.actOwnsEven hM _ _ _ _ _ _ _ _ (by simpa using e)
 by_cases e12:kd=12
 ·rw[e12];exact h.actOff hM _ _ _ _ _ _ _ _
 have F:∀ {x:Int},¬kd=x->(kd == x)=false:=fun q=>by simpa using q
 exact h.actOther hM _ _ _ _ _ _ _ _ _ (F e1) (F e2) (F e3) (F e4) (F e5) (F e6) (F e7) (F e8) (F e9) (F e10) (F e11) (F e12)
open Go.RowKit Go.Deep
theorem zeros_cut(nb y:Nat)(hy:y<nb):((zeros (512 * nb)).drop (512 * y)).take 512=zeros 512:=by
 unfold zeros
 rw[List.drop_replicate,List.take_replicate]
 congr 1
 omega
theorem owns_bs{g s:Nat}{v:Value}(h:w.ownsRow g e s v n xs)(hb:B<=g):w.ownsRow B e s v n xs:=by
 obtain⟨h1,h2⟩:=h
 exact⟨h1,h2.imp id fun⟨g',cap,cur,q1,q2,r⟩=>⟨g',cap,cur,q1,Nat.le_trans hb q2,r⟩⟩
theorem owns_lo{g s:Nat}{v:Value}(h:w.ownsRow g e s v n xs)(hk:v.ownBlock=some k):g<=k:=by
 rcases h.2 with ⟨q,_⟩ | ⟨g',cap,cur,q1,q2,r⟩
 ·rw[q]at hk;cases hk
 ·rw[q1]at hk
  have:g'=k:=by simpa [Value.ownBlock] using hk
  omega
def OpD (w:World) (e:Ending) (w':World):Prop:=∃ob B,e=.returned (.tuple #[.pointer (some ⟨ob,0,none⟩),.bool true])/\Dsk B w' ob 0/\(∀k,B k->w.heap.size<=k)/\Below w.heap.size w w'
theorem open_dsk(a b c:Int)(w:World):Calls Tryz.prog 12 #[.agg #[.int .i64 a,.int .i64 b,.int .i64 c]] w (OpD w):=by
 have l1:=into_lt a (show 0<10 by decide)
 have l2:=into_lt b (show 0<16 by decide)
 have l3:=into_lt c (show 0<9 by decide)
 obtain⟨fr,hfr⟩:∃fr,fr=into 10 a:=⟨_,rfl⟩
 obtain⟨bl,hbl⟩:∃bl,bl=16+into 16 b:=⟨_,rfl⟩
 obtain⟨re,hre⟩:∃re,re=1+into 9 c:=⟨_,rfl⟩
 obtain⟨nb,hnb⟩:∃nb,nb=fr+bl+re:=⟨_,rfl⟩
 refine Calls.mono (open5_two a b c fr bl re nb hfr hbl hre hnb w) ?_
 rintro e w' ⟨ob,p,st,rb,j,cc,Z,d,s,lv,rfl,⟨p1,p2,p3,p4,p5,p6⟩,hob,hJ,hfu,hOn,hSt,⟨n1,n2,n3⟩,hZ,⟨hR5,hlv⟩,hb⟩
 have hbl1:16<=bl:=by omega
 have hfit:fr+bl<=nb:=by omega
 have hnb1:nb<=524288:=by omega
 have hlvk:∀k,lv.ownBlock=some k->rb<k:=fun k hk=>by have:=owns_lo hlv hk;omega
 have hlvs:∀k,lv.ownBlock=some k->k<w'.heap.size:=fun k hk=>by
  obtain⟨cur,hc⟩:=rowKind hlv hk
  exact (Array.getElem?_eq_some_iff.1 hc).1
 obtain⟨v,hv⟩:∃v:Dv,v=⟨p,st,j,cc,nb,fr,bl,0,d,s,none,⟨rb,lv,.slice none 0 0,0,List.replicate nb (strOfNums (zeros 512)),[],[],none,false⟩,.slice none 0 0,.slice none 0 0,.slice none 0 0,[]⟩:=⟨_,rfl⟩
 have hD:∀k,Dset ob v k->k=rb\/lv.ownBlock=some k\/k=ob:=fun k hk=>by
  rw[hv]at hk
  rcases hk with hk | hk | hk | hk | ⟨x,hx,_⟩
  ·rcases hk with hk | hk | hk | ⟨x,hx,_⟩ | ⟨q,hq,_⟩
   ·exact .inl hk
   ·exact .inr (.inl hk)
   ·cases hk
   ·cases hx
   ·cases hq
  ·rcases hk with hk | hk
   ·exact .inr (.inr hk)
   ·cases hk
  ·cases hk
  ·cases hk
  ·cases hx
 refine⟨ob,Ball (fun k=>Z k\/k=st) ob v,rfl,⟨fun k=>Z k\/k=st,v,⟨⟨?_,?_,?_⟩,?_,?_,?_⟩,?_,fun _=>Iff.rfl⟩,?_,hb⟩
 ·rw[hv]
  exact⟨Z,hJ,fun k q=>.inl q,hSt,n1,.inr rfl⟩
 ·rw[hv]
  intro x hx
  cases hx
 ·rintro k (q | q)
  ·have:=hZ k q;omega
  ·omega
 ·rw[hv]
  refine⟨⟨⟨0,hob⟩,.inl rfl⟩,⟨hR5,?_,by simp,⟨rfl,.inl ⟨rfl,rfl⟩⟩,rfl,(fun i x ps h1=>by simp at h1),(fun q h1=>by cases h1),fun q h1=>by cases h1⟩,⟨rfl,.inl ⟨rfl,rfl⟩⟩,⟨rfl,.inl ⟨rfl,rfl⟩⟩,fun x hx=>by cases hx⟩
  have:=owns_bs hlv (Nat.zero_le _)
  simpa using this
 ·rintro k hk (q | q)
  ·have:=hZ k q
   rcases hD k hk with e | e | e
   ·omega
   ·have:=hlvk k e;omega
   ·omega
  ·rcases hD k hk with e | e | e
   ·omega
   ·have:=hlvk k e;omega
   ·omega
 ·rw[hv]
  intro x hx
  cases hx
 ·rw[hv]
  refine⟨hOn.on.symm,fun _=>⟨hfu,_,[],hOn,fun y hy F hF=>?_,Nat.zero_le _⟩,hOn.puts hbl1 hfit hnb1,rfl,(fun q t h1=>by cases h1),Nat.zero_le _,⟨Nat.zero_le _,fun ps hp=>by cases hp⟩,Nat.zero_le _,hbl1,hfit,hnb1⟩
  have hyn:=hy.1
  simp only[List.getElem?_replicate,hyn,if_true,Option.some.injEq]at hF
  show strOfNums (((zeros (512 * nb)).drop (512 * y)).take 512)=holdsU (y:Int) F []
  rw[zeros_cut nb y hyn,hF]
  rfl
 ·rintro k ((q | q) | q | ⟨x,hx,_⟩)
  ·have:=hZ k q;omega
  ·omega
  ·rcases hD k q with e | e | e
   ·omega
   ·have:=hlvk k e;omega
   ·omega
  ·rw[hv]at hx;cases hx
end Go.Proofs.YthfojpcibnfmgaaGreat
