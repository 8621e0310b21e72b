import Derived.Test.YthfojpcibnfmgaaGreatV42
set_option maxRecDepth 100000
set_option maxHeartbeats 16000000
namespace Go.Proofs.YthfojpcibnfmgaaGreat
variable {B Y Y':Nat->Prop}
variable {W w w':World}
variable {M:Nat}
variable {v':Dv}
variable {way:List Pu}
variable {rv tv:Value}
variable {who:Option Bool}
open Go.RowKit Go.Deep
variable {Gm:Nat×Nat×Nat}
theorem Dsk.actISee{ob:Nat}(h:Dsk Gm B w ob M)(hM:M<=268435455)(wh tx at_ fl:Int)(ra:Option Addr)(rn rc:Nat)(oo:Nat)(hy1:-9223372036854775808<=at_)(hy2:at_<=9223372036854775807):Calls Tryz.prog 13 #[.pointer (some ⟨ob,0,none⟩),(.agg #[.int .i64 wh,.int .i64 2,.int .i64 tx,.int .i64 at_,.int .i64 fl,.slice ra rn rc]),.pointer (some ⟨oo,0,none⟩)] w (ActW Gm B w ob (M+1)):=by
 obtain⟨PO,hPO⟩:∃PO:Ending->World->Prop,PO=ActW Gm B w ob (M+1):=⟨_,rfl⟩
 rw[<- hPO]
 have b0:Below w.heap.size w (w.alloc (.cells #[.int .i64 wh,.int .i64 2,.int .i64 tx,.int .i64 at_,.int .i64 fl,.slice ra rn rc] 42)):=(Below.refl _ _).alloc (Nat.le_refl _) _
 have hbx0:Bx (w.alloc (.cells #[.int .i64 wh,.int .i64 2,.int .i64 tx,.int .i64 at_,.int .i64 fl,.slice ra rn rc] 42)) w.heap.size wh 2 tx at_ fl (.slice ra rn rc):=alloc_new rfl _
 have HL:Hid (Calls Tryz.prog 40 #[.pointer (some ⟨ob,0,none⟩),(.agg #[.int .i64 wh,.int .i64 2,.int .i64 tx,.int .i64 at_,.int .i64 fl,.slice ra rn rc])] (w.alloc (.cells #[.int .i64 wh,.int .i64 2,.int .i64 tx,.int .i64 at_,.int .i64 fl,.slice ra rn rc] 42)) fun e w1=>∃u,e=.returned (.tuple #[.bool true,u])/\PO (.returned (.tuple #[.bool true,u])) w1):=by
  refine Calls.mono ((h.below b0).inSee hM wh tx at_ fl ra rn rc hy1 hy2) ?_
  rintro e w1 ⟨u,rfl,q⟩
  exact⟨u,rfl,by rw[hPO];exact⟨_,rfl,q.low b0⟩⟩
 have c0:=hbx0.cell 0
 have c1:=hbx0.cell 1
 have c2:=hbx0.cell 2
 have c3:=hbx0.cell 3
 have c4:=hbx0.cell 4
 have c5:=hbx0.cell 5
 simp at c0 c1 c2 c3 c4 c5
 clear h hPO b0 hbx0
 go_enter Tryz.func13,Tryz.ntmps13
 go_wp2_with fail
 refine Calls.mono HL.out ?_
 rintro e w1 ⟨u,rfl,q⟩
 have FIN:=hid q
 clear q HL
 go_wp2_with fail
 exact FIN.out
theorem Dsk.actIWrite{ob:Nat}(h:Dsk Gm B w ob M)(hM:M<=268435455)(wh tx at_ fl:Int)(ra:Option Addr)(rn rc:Nat)(oo:Nat)(hy1:-9223372036854775808<=at_)(hy2:at_<=9223372036854775807):Calls Tryz.prog 13 #[.pointer (some ⟨ob,0,none⟩),(.agg #[.int .i64 wh,.int .i64 3,.int .i64 tx,.int .i64 at_,.int .i64 fl,.slice ra rn rc]),.pointer (some ⟨oo,0,none⟩)] w (ActW Gm B w ob (M+1)):=by
 obtain⟨PO,hPO⟩:∃PO:Ending->World->Prop,PO=ActW Gm B w ob (M+1):=⟨_,rfl⟩
 rw[<- hPO]
 have b0:Below w.heap.size w (w.alloc (.cells #[.int .i64 wh,.int .i64 3,.int .i64 tx,.int .i64 at_,.int .i64 fl,.slice ra rn rc] 42)):=(Below.refl _ _).alloc (Nat.le_refl _) _
 have hbx0:Bx (w.alloc (.cells #[.int .i64 wh,.int .i64 3,.int .i64 tx,.int .i64 at_,.int .i64 fl,.slice ra rn rc] 42)) w.heap.size wh 3 tx at_ fl (.slice ra rn rc):=alloc_new rfl _
 have HL:Hid (Calls Tryz.prog 40 #[.pointer (some ⟨ob,0,none⟩),(.agg #[.int .i64 wh,.int .i64 3,.int .i64 tx,.int .i64 at_,.int .i64 fl,.slice ra rn rc])] (w.alloc (.cells #[.int .i64 wh,.int .i64 3,.int .i64 tx,.int .i64 at_,.int .i64 fl,.slice ra rn rc] 42)) fun e w1=>∃u,e=.returned (.tuple #[.bool true,u])/\PO (.returned (.tuple #[.bool true,u])) w1):=by
  refine Calls.mono ((h.below b0).inWrite hM wh tx at_ fl ra rn rc hy1 hy2) ?_
  rintro e w1 ⟨u,rfl,q⟩
  exact⟨u,rfl,by rw[hPO];exact⟨_,rfl,q.low b0⟩⟩
 have c0:=hbx0.cell 0
 have c1:=hbx0.cell 1
 have c2:=hbx0.cell 2
 have c3:=hbx0.cell 3
 have c4:=hbx0.cell 4
 have c5:=hbx0.cell 5
 simp at c0 c1 c2 c3 c4 c5
 clear h hPO b0 hbx0
 go_enter Tryz.func13,Tryz.ntmps13
 go_wp2_with fail
 refine Calls.mono HL.out ?_
 rintro e w1 ⟨u,rfl,q⟩
 have FIN:=hid q
 clear q HL
 go_wp2_with fail
 exact FIN.out
theorem Dsk.actIRaw{ob:Nat}(h:Dsk Gm B w ob M)(hM:M<=268435455)(wh tx at_ fl:Int)(ra:Option Addr)(rn rc:Nat)(oo:Nat)(hy1:-9223372036854775808<=at_)(hy2:at_<=9223372036854775807)(zs:List Int)(hrn:rn<=16777216)(hraw:RdN B w ra rn zs):Calls Tryz.prog 13 #[.pointer (some ⟨ob,0,none⟩),(.agg #[.int .i64 wh,.int .i64 4,.int .i64 tx,.int .i64 at_,.int .i64 fl,.slice ra rn rc]),.pointer (some ⟨oo,0,none⟩)] w (ActW Gm B w ob (M+1)):=by
 obtain⟨PO,hPO⟩:∃PO:Ending->World->Prop,PO=ActW Gm B w ob (M+1):=⟨_,rfl⟩
 rw[<- hPO]
 have b0:Below w.heap.size w (w.alloc (.cells #[.int .i64 wh,.int .i64 4,.int .i64 tx,.int .i64 at_,.int .i64 fl,.slice ra rn rc] 42)):=(Below.refl _ _).alloc (Nat.le_refl _) _
 have hbx0:Bx (w.alloc (.cells #[.int .i64 wh,.int .i64 4,.int .i64 tx,.int .i64 at_,.int .i64 fl,.slice ra rn rc] 42)) w.heap.size wh 4 tx at_ fl (.slice ra rn rc):=alloc_new rfl _
 have HL:Hid (Calls Tryz.prog 40 #[.pointer (some ⟨ob,0,none⟩),(.agg #[.int .i64 wh,.int .i64 4,.int .i64 tx,.int .i64 at_,.int .i64 fl,.slice ra rn rc])] (w.alloc (.cells #[.int .i64 wh,.int .i64 4,.int .i64 tx,.int .i64 at_,.int .i64 fl,.slice ra rn rc] 42)) fun e w1=>∃u,e=.returned (.tuple #[.bool true,u])/\PO (.returned (.tuple #[.bool true,u])) w1):=by
  refine Calls.mono ((h.below b0).inRaw hM wh tx at_ fl ra rn rc hy1 hy2 zs hrn (hraw.but ((But.of_below b0).mono (X:=fun _=>False) (fun _ _ q=>q.elim)))) ?_
  rintro e w1 ⟨u,rfl,q⟩
  exact⟨u,rfl,by rw[hPO];exact⟨_,rfl,q.low b0⟩⟩
 have c0:=hbx0.cell 0
 have c1:=hbx0.cell 1
 have c2:=hbx0.cell 2
 have c3:=hbx0.cell 3
 have c4:=hbx0.cell 4
 have c5:=hbx0.cell 5
 simp at c0 c1 c2 c3 c4 c5
 clear h hPO b0 hbx0 hraw
 go_enter Tryz.func13,Tryz.ntmps13
 go_wp2_with fail
 refine Calls.mono HL.out ?_
 rintro e w1 ⟨u,rfl,q⟩
 have FIN:=hid q
 clear q HL
 go_wp2_with fail
 exact FIN.out
theorem Dsk.actIMark{ob:Nat}(h:Dsk Gm B w ob M)(hM:M<=268435455)(wh tx at_ fl:Int)(ra:Option Addr)(rn rc:Nat)(oo:Nat):Calls Tryz.prog 13 #[.pointer (some ⟨ob,0,none⟩),(.agg #[.int .i64 wh,.int .i64 5,.int .i64 tx,.int .i64 at_,.int .i64 fl,.slice ra rn rc]),.pointer (some ⟨oo,0,none⟩)] w (ActW Gm B w ob (M+1)):=by
 obtain⟨PO,hPO⟩:∃PO:Ending->World->Prop,PO=ActW Gm B w ob (M+1):=⟨_,rfl⟩
 rw[<- hPO]
 have b0:Below w.heap.size w (w.alloc (.cells #[.int .i64 wh,.int .i64 5,.int .i64 tx,.int .i64 at_,.int .i64 fl,.slice ra rn rc] 42)):=(Below.refl _ _).alloc (Nat.le_refl _) _
 have hbx0:Bx (w.alloc (.cells #[.int .i64 wh,.int .i64 5,.int .i64 tx,.int .i64 at_,.int .i64 fl,.slice ra rn rc] 42)) w.heap.size wh 5 tx at_ fl (.slice ra rn rc):=alloc_new rfl _
 have HL:Hid (Calls Tryz.prog 40 #[.pointer (some ⟨ob,0,none⟩),(.agg #[.int .i64 wh,.int .i64 5,.int .i64 tx,.int .i64 at_,.int .i64 fl,.slice ra rn rc])] (w.alloc (.cells #[.int .i64 wh,.int .i64 5,.int .i64 tx,.int .i64 at_,.int .i64 fl,.slice ra rn rc] 42)) fun e w1=>∃u,e=.returned (.tuple #[.bool true,u])/\PO (.returned (.tuple #[.bool true,u])) w1):=by
  refine Calls.mono ((h.below b0).inMark hM wh tx at_ fl ra rn rc) ?_
  rintro e w1 ⟨u,rfl,q⟩
  exact⟨u,rfl,by rw[hPO];exact⟨_,rfl,q.low b0⟩⟩
 have c0:=hbx0.cell 0
 have c1:=hbx0.cell 1
 have c2:=hbx0.cell 2
 have c3:=hbx0.cell 3
 have c4:=hbx0.cell 4
 have c5:=hbx0.cell 5
 simp at c0 c1 c2 c3 c4 c5
 clear h hPO b0 hbx0
 go_enter Tryz.func13,Tryz.ntmps13
 go_wp2_with fail
 refine Calls.mono HL.out ?_
 rintro e w1 ⟨u,rfl,q⟩
 have FIN:=hid q
 clear q HL
 go_wp2_with fail
 exact FIN.out
theorem Dsk.actIBack{ob:Nat}(h:Dsk Gm B w ob M)(hM:M<=268435455)(wh tx at_ fl:Int)(ra:Option Addr)(rn rc:Nat)(oo:Nat):Calls Tryz.prog 13 #[.pointer (some ⟨ob,0,none⟩),(.agg #[.int .i64 wh,.int .i64 6,.int .i64 tx,.int .i64 at_,.int .i64 fl,.slice ra rn rc]),.pointer (some ⟨oo,0,none⟩)] w (ActW Gm B w ob (M+1)):=by
 obtain⟨PO,hPO⟩:∃PO:Ending->World->Prop,PO=ActW Gm B w ob (M+1):=⟨_,rfl⟩
 rw[<- hPO]
 have b0:Below w.heap.size w (w.alloc (.cells #[.int .i64 wh,.int .i64 6,.int .i64 tx,.int .i64 at_,.int .i64 fl,.slice ra rn rc] 42)):=(Below.refl _ _).alloc (Nat.le_refl _) _
 have hbx0:Bx (w.alloc (.cells #[.int .i64 wh,.int .i64 6,.int .i64 tx,.int .i64 at_,.int .i64 fl,.slice ra rn rc] 42)) w.heap.size wh 6 tx at_ fl (.slice ra rn rc):=alloc_new rfl _
 have HL:Hid (Calls Tryz.prog 40 #[.pointer (some ⟨ob,0,none⟩),(.agg #[.int .i64 wh,.int .i64 6,.int .i64 tx,.int .i64 at_,.int .i64 fl,.slice ra rn rc])] (w.alloc (.cells #[.int .i64 wh,.int .i64 6,.int .i64 tx,.int .i64 at_,.int .i64 fl,.slice ra rn rc] 42)) fun e w1=>∃u,e=.returned (.tuple #[.bool true,u])/\PO (.returned (.tuple #[.bool true,u])) w1):=by
  refine Calls.mono ((h.below b0).inBack hM wh tx at_ fl ra rn rc) ?_
  rintro e w1 ⟨u,rfl,q⟩
  exact⟨u,rfl,by rw[hPO];exact⟨_,rfl,q.low b0⟩⟩
 have c0:=hbx0.cell 0
 have c1:=hbx0.cell 1
 have c2:=hbx0.cell 2
 have c3:=hbx0.cell 3
 have c4:=hbx0.cell 4
 have c5:=hbx0.cell 5
 simp at c0 c1 c2 c3 c4 c5
 clear h hPO b0 hbx0
 go_enter Tryz.func13,Tryz.ntmps13
 go_wp2_with fail
 refine Calls.mono HL.out ?_
 rintro e w1 ⟨u,rfl,q⟩
 have FIN:=hid q
 clear q HL
 go_wp2_with fail
 exact FIN.out
theorem Dsk.actIAbort{ob:Nat}(h:Dsk Gm B w ob M)(hM:M<=268435455)(wh tx at_ fl:Int)(ra:Option Addr)(rn rc:Nat)(oo:Nat):Calls Tryz.prog 13 #[.pointer (some ⟨ob,0,none⟩),(.agg #[.int .i64 wh,.int .i64 9,.int .i64 tx,.int .i64 at_,.int .i64 fl,.slice ra rn rc]),.pointer (some ⟨oo,0,none⟩)] w (ActW Gm B w ob (M+1)):=by
 obtain⟨PO,hPO⟩:∃PO:Ending->World->Prop,PO=ActW Gm B w ob (M+1):=⟨_,rfl⟩
 rw[<- hPO]
 have b0:Below w.heap.size w (w.alloc (.cells #[.int .i64 wh,.int .i64 9,.int .i64 tx,.int .i64 at_,.int .i64 fl,.slice ra rn rc] 42)):=(Below.refl _ _).alloc (Nat.le_refl _) _
 have hbx0:Bx (w.alloc (.cells #[.int .i64 wh,.int .i64 9,.int .i64 tx,.int .i64 at_,.int .i64 fl,.slice ra rn rc] 42)) w.heap.size wh 9 tx at_ fl (.slice ra rn rc):=alloc_new rfl _
 have HL:Hid (Calls Tryz.prog 40 #[.pointer (some ⟨ob,0,none⟩),(.agg #[.int .i64 wh,.int .i64 9,.int .i64 tx,.int .i64 at_,.int .i64 fl,.slice ra rn rc])] (w.alloc (.cells #[.int .i64 wh,.int .i64 9,.int .i64 tx,.int .i64 at_,.int .i64 fl,.slice ra rn rc] 42)) fun e w1=>∃u,e=.returned (.tuple #[.bool true,u])/\PO (.returned (.tuple #[.bool true,u])) w1):=by
  refine Calls.mono ((h.below b0).inAbort hM wh 9 tx at_ fl ra rn rc (by decide) (by decide) (by decide) (by decide) (by decide) (by decide)) ?_
  rintro e w1 ⟨u,rfl,q⟩
  exact⟨u,rfl,by rw[hPO];exact⟨_,rfl,q.low b0⟩⟩
 have c0:=hbx0.cell 0
 have c1:=hbx0.cell 1
 have c2:=hbx0.cell 2
 have c3:=hbx0.cell 3
 have c4:=hbx0.cell 4
 have c5:=hbx0.cell 5
 simp at c0 c1 c2 c3 c4 c5
 clear h hPO b0 hbx0
 go_enter Tryz.func13,Tryz.ntmps13
 go_wp2_with fail
 refine Calls.mono HL.out ?_
 rintro e w1 ⟨u,rfl,q⟩
 have FIN:=hid q
 clear q HL
 go_wp2_with fail
 exact FIN.out
open Go.RowKit Go.Deep
variable {Gm:Nat×Nat×Nat}
theorem Dsk.actBegin{ob:Nat}(h:Dsk Gm B w ob M)(hM:M<=268435455)(wh tx at_ fl:Int)(ra:Option Addr)(rn rc:Nat)(oo:Nat):Calls Tryz.prog 13 #[.pointer (some ⟨ob,0,none⟩),(.agg #[.int .i64 wh,.int .i64 7,.int .i64 tx,.int .i64 at_,.int .i64 fl,.slice ra rn rc]),.pointer (some ⟨oo,0,none⟩)] w (ActW Gm B w ob (M+1)):=by
 obtain⟨PO,hPO⟩:∃PO:Ending->World->Prop,PO=ActW Gm B w ob (M+1):=⟨_,rfl⟩
 rw[<- hPO]
 have b0:Below w.heap.size w (w.alloc (.cells #[.int .i64 wh,.int .i64 7,.int .i64 tx,.int .i64 at_,.int .i64 fl,.slice ra rn rc] 42)):=(Below.refl _ _).alloc (Nat.le_refl _) _
 have hbx0:Bx (w.alloc (.cells #[.int .i64 wh,.int .i64 7,.int .i64 tx,.int .i64 at_,.int .i64 fl,.slice ra rn rc] 42)) w.heap.size wh 7 tx at_ fl (.slice ra rn rc):=alloc_new rfl _
 obtain⟨Y,v,h,hr,hB⟩:=h
 have hAB:¬B w.heap.size:=fun e=>by
  have:=h.lt ((hB _).1 e)
  omega
 have hAY:¬Y w.heap.size:=fun e=>hAB ((hB _).2 (.inl e))
 have HL:Hid (Calls Tryz.prog 41 #[.pointer (some ⟨ob,0,none⟩)] (w.alloc (.cells #[.int .i64 wh,.int .i64 7,.int .i64 tx,.int .i64 at_,.int .i64 fl,.slice ra rn rc] 42)) fun e w1=>e=.returned (.bool true)/\PO (.returned (.tuple #[.bool true,.slice none 0 0])) w1):=by
  refine Calls.mono ((h.low b0).begin41 hr hB hM) ?_
  rintro e w1 ⟨rfl,q⟩
  exact⟨rfl,by rw[hPO];exact⟨_,rfl,(DskS.v q).low b0⟩⟩
 have kk:=hbx0.cell 1
 simp at kk
 clear h hr hB hPO b0 hbx0 hAB hAY
 go_enter Tryz.func13,Tryz.ntmps13
 go_wp2_with fail
 refine Calls.mono HL.out ?_
 rintro e w1 ⟨rfl,q⟩
 have FIN:=hid q
 clear q HL
 go_wp2_with fail
 exact FIN.out
theorem Dsk.actOff{ob:Nat}(h:Dsk Gm B w ob M)(hM:M<=268435455)(wh tx at_ fl:Int)(ra:Option Addr)(rn rc:Nat)(oo:Nat):Calls Tryz.prog 13 #[.pointer (some ⟨ob,0,none⟩),(.agg #[.int .i64 wh,.int .i64 12,.int .i64 tx,.int .i64 at_,.int .i64 fl,.slice ra rn rc]),.pointer (some ⟨oo,0,none⟩)] w (ActW Gm B w ob (M+1)):=by
 obtain⟨PO,hPO⟩:∃PO:Ending->World->Prop,PO=ActW Gm B w ob (M+1):=⟨_,rfl⟩
 rw[<- hPO]
 have b0:Below w.heap.size w (w.alloc (.cells #[.int .i64 wh,.int .i64 12,.int .i64 tx,.int .i64 at_,.int .i64 fl,.slice ra rn rc] 42)):=(Below.refl _ _).alloc (Nat.le_refl _) _
 have hbx0:Bx (w.alloc (.cells #[.int .i64 wh,.int .i64 12,.int .i64 tx,.int .i64 at_,.int .i64 fl,.slice ra rn rc] 42)) w.heap.size wh 12 tx at_ fl (.slice ra rn rc):=alloc_new rfl _
 obtain⟨Y,v,h,hr,hB⟩:=h
 have hAB:¬B w.heap.size:=fun e=>by
  have:=h.lt ((hB _).1 e)
  omega
 have hAY:¬Y w.heap.size:=fun e=>hAB ((hB _).2 (.inl e))
 have HL:Hid (Calls Tryz.prog 45 #[.pointer (some ⟨ob,0,none⟩)] (w.alloc (.cells #[.int .i64 wh,.int .i64 12,.int .i64 tx,.int .i64 at_,.int .i64 fl,.slice ra rn rc] 42)) fun e w1=>e=.returned (.bool true)/\PO (.returned (.tuple #[.bool true,.slice none 0 0])) w1):=by
  refine Calls.mono ((h.low b0).off45 hr hB hM) ?_
  rintro e w1 ⟨rfl,q⟩
  exact⟨rfl,by rw[hPO];exact⟨_,rfl,(DskS.v q).low b0⟩⟩
 have kk:=hbx0.cell 1
 simp at kk
 clear h hr hB hPO b0 hbx0 hAB hAY
 go_enter Tryz.func13,Tryz.ntmps13
 go_wp2_with fail
 refine Calls.mono HL.out ?_
 rintro e w1 ⟨rfl,q⟩
 have FIN:=hid q
 clear q HL
 go_wp2_with fail
 exact FIN.out
open Go.RowKit Go.Deep
variable {Gm:Nat×Nat×Nat}
theorem Dsk.actOwnsEven{ob:Nat}(h:Dsk Gm B w ob M)(hM:M<=268435455)(wh tx at_ fl:Int)(ra:Option Addr)(rn rc:Nat)(oo:Nat)(hf:(bits .and .i64 fl 1 == 1)=false):Calls Tryz.prog 13 #[.pointer (some ⟨ob,0,none⟩),(.agg #[.int .i64 wh,.int .i64 11,.int .i64 tx,.int .i64 at_,.int .i64 fl,.slice ra rn rc]),.pointer (some ⟨oo,0,none⟩)] w (ActW Gm B w ob (M+1)):=by
 obtain⟨PO,hPO⟩:∃PO:Ending->World->Prop,PO=ActW Gm B w ob (M+1):=⟨_,rfl⟩
 rw[<- hPO]
 have b0:Below w.heap.size w (w.alloc (.cells #[.int .i64 wh,.int .i64 11,.int .i64 tx,.int .i64 at_,.int .i64 fl,.slice ra rn rc] 42)):=(Below.refl _ _).alloc (Nat.le_refl _) _
 have hbx0:Bx (w.alloc (.cells #[.int .i64 wh,.int .i64 11,.int .i64 tx,.int .i64 at_,.int .i64 fl,.slice ra rn rc] 42)) w.heap.size wh 11 tx at_ fl (.slice ra rn rc):=alloc_new rfl _
 obtain⟨Y,v,h,hr,hB⟩:=h
 have hAB:¬B w.heap.size:=fun e=>by
  have:=h.lt ((hB _).1 e)
  omega
 have hAY:¬Y w.heap.size:=fun e=>hAB ((hB _).2 (.inl e))
 have h0:=h.low b0
 obtain⟨ss,hss⟩:∃ss,ss=v.st:=⟨_,rfl⟩
 obtain⟨rr,hrr⟩:∃rr,rr=v.r.rb:=⟨_,rfl⟩
 have HL:Hid (Calls Tryz.prog 43 #[.pointer (some ⟨ob,0,none⟩),.int .i64 tx] (w.alloc (.cells #[.int .i64 wh,.int .i64 11,.int .i64 tx,.int .i64 at_,.int .i64 fl,.slice ra rn rc] 42)) fun e w2=>∃tv rv,e=.returned (.tuple #[tv,rv])/\w2.cell? ⟨w.heap.size,4,none⟩=some (.int .i64 fl)/\(w2.cell? ⟨ob,1,none⟩=some (.pointer (some ⟨ss,0,none⟩))/\Calls Tryz.prog 31 #[.pointer (some ⟨ss,0,none⟩),tv] w2 fun e w3=>∃code,e=.returned (.int .i64 code)/\w3.cell? ⟨ob,2,none⟩=some (.pointer (some ⟨rr,0,none⟩))/\Calls Tryz.prog 44 #[.pointer (some ⟨rr,0,none⟩),rv] w3 fun e' w4=>e'=.returned (.int .i64 code)/\PO (.returned (.tuple #[.bool true,.slice none 0 0])) w4)):=by
  rw[hss,hrr]
  refine Calls.mono (h0.pick43 hr hB hM tx) ?_
  rintro e w2 ⟨tv,rv,who,rfl,hp,hDD,b1⟩
  have bw2:Below w.heap.size w w2:=b0.trans (b1.mono b0.size)
  have hb1:=hbx0.low b1
  have j4:=hb1.cell 4
  simp at j4
  refine⟨tv,rv,rfl,j4,hDD.R.cells.2.1,Calls.mono (hDD.ownsBoth hr hp) ?_⟩
  rintro e w3 ⟨code,rfl,hR3,bb,q⟩
  refine⟨code,rfl,hR3.cells.2.2.1,Calls.mono q ?_⟩
  rintro e' w4 ⟨rfl,rfl⟩
  (
   have hid0:DskS Gm B w w4 ob (M+1):=⟨B,⟨Y,v,hDD.low bb,hr.mono (Nat.le_succ M),hB⟩,fun _ _ e=>e,(But.of_below (bw2.trans (bb.mono bw2.size)))⟩
   exact⟨rfl,by rw[hPO];exact⟨_,rfl,DskS.v hid0⟩⟩
  )
 have HZ:Hid (∀x (W:World),Calls Tryz.prog 39 #[.int .i64 x] W fun e w'=>e=.returned (.int .i64 x)/\w'=W):=fun x W=>num_any x W
 have kk:=hbx0.cell 1
 have kx:=hbx0.cell 2
 simp at kk kx
 clear h hr hB hPO b0 hbx0 hAB hAY h0 hss hrr
 go_enter Tryz.func13,Tryz.ntmps13
 go_wp2_with fail
 refine Calls.mono HL.out ?_
 rintro e w2 ⟨tv,rv,rfl,k4,c1,q⟩
 have H2:=hid q
 clear q HL kx kk
 go_wp2_with fail
 refine Calls.mono H2.out ?_
 rintro e w3 ⟨code,rfl,d2,q⟩
 have H3:=hid q
 clear q H2
 go_wp2_with fail
 refine Calls.mono H3.out ?_
 rintro e w4 ⟨rfl,q⟩
 have FIN:=hid q
 clear q H3 d2
 go_wp2_with fail
 refine Calls.mono (HZ.out _ _) ?_
 rintro e w9 ⟨rfl,hw9⟩
 rw[hw9]
 clear hw9
 go_wp2_with fail
 exact FIN.out
theorem Dsk.actOwnsSelf{ob:Nat}(h:Dsk Gm B w ob M)(hM:M<=268435455)(wh tx at_ fl:Int)(ra:Option Addr)(rn rc:Nat)(hf:(bits .and .i64 fl 1 == 1)=true):Calls Tryz.prog 13 #[.pointer (some ⟨ob,0,none⟩),(.agg #[.int .i64 wh,.int .i64 11,.int .i64 tx,.int .i64 at_,.int .i64 fl,.slice ra rn rc]),.pointer (some ⟨ob,0,none⟩)] w (ActW Gm B w ob (M+1)):=by
 obtain⟨PO,hPO⟩:∃PO:Ending->World->Prop,PO=ActW Gm B w ob (M+1):=⟨_,rfl⟩
 rw[<- hPO]
 have b0:Below w.heap.size w (w.alloc (.cells #[.int .i64 wh,.int .i64 11,.int .i64 tx,.int .i64 at_,.int .i64 fl,.slice ra rn rc] 42)):=(Below.refl _ _).alloc (Nat.le_refl _) _
 have hbx0:Bx (w.alloc (.cells #[.int .i64 wh,.int .i64 11,.int .i64 tx,.int .i64 at_,.int .i64 fl,.slice ra rn rc] 42)) w.heap.size wh 11 tx at_ fl (.slice ra rn rc):=alloc_new rfl _
 obtain⟨Y,v,h,hr,hB⟩:=h
 have hAB:¬B w.heap.size:=fun e=>by
  have:=h.lt ((hB _).1 e)
  omega
 have hAY:¬Y w.heap.size:=fun e=>hAB ((hB _).2 (.inl e))
 have h0:=h.low b0
 obtain⟨ss,hss⟩:∃ss,ss=v.st:=⟨_,rfl⟩
 obtain⟨rr,hrr⟩:∃rr,rr=v.r.rb:=⟨_,rfl⟩
 have HL:Hid (Calls Tryz.prog 43 #[.pointer (some ⟨ob,0,none⟩),.int .i64 tx] (w.alloc (.cells #[.int .i64 wh,.int .i64 11,.int .i64 tx,.int .i64 at_,.int .i64 fl,.slice ra rn rc] 42)) fun e w1=>∃tv rv,e=.returned (.tuple #[tv,rv])/\w1.cell? ⟨w.heap.size,4,none⟩=some (.int .i64 fl)/\w1.cell? ⟨w.heap.size,2,none⟩=some (.int .i64 tx)/\Calls Tryz.prog 43 #[.pointer (some ⟨ob,0,none⟩),.int .i64 tx] w1 fun e w2=>∃tv rv,e=.returned (.tuple #[tv,rv])/\(w2.cell? ⟨ob,1,none⟩=some (.pointer (some ⟨ss,0,none⟩))/\Calls Tryz.prog 31 #[.pointer (some ⟨ss,0,none⟩),tv] w2 fun e w3=>∃code,e=.returned (.int .i64 code)/\w3.cell? ⟨ob,2,none⟩=some (.pointer (some ⟨rr,0,none⟩))/\Calls Tryz.prog 44 #[.pointer (some ⟨rr,0,none⟩),rv] w3 fun e' w4=>e'=.returned (.int .i64 code)/\PO (.returned (.tuple #[.bool true,.slice none 0 0])) w4)):=by
  rw[hss,hrr]
  refine Calls.mono (h0.pick43 hr hB hM tx) ?_
  rintro e w1 ⟨tv0,rv0,who0,rfl,_,hD1,b1⟩
  have hb1:=hbx0.low b1
  have j4:=hb1.cell 4
  have j2:=hb1.cell 2
  simp at j4 j2
  refine⟨tv0,rv0,rfl,j4,j2,Calls.mono (hD1.pick43 hr hB hM tx) ?_⟩
  rintro e w2 ⟨tv,rv,who,rfl,hp,hD2,b2⟩
  have hDD:=hD2
  have bw2:Below w.heap.size w w2:=(b0.trans (b1.mono b0.size)).trans (b2.mono (Nat.le_trans b0.size b1.size))
  refine⟨tv,rv,rfl,hDD.R.cells.2.1,Calls.mono (hDD.ownsBoth hr hp) ?_⟩
  rintro e w3 ⟨code,rfl,hR3,bb,q⟩
  refine⟨code,rfl,hR3.cells.2.2.1,Calls.mono q ?_⟩
  rintro e' w4 ⟨rfl,rfl⟩
  (
   have hid0:DskS Gm B w w4 ob (M+1):=⟨B,⟨Y,v,hDD.low bb,hr.mono (Nat.le_succ M),hB⟩,fun _ _ e=>e,(But.of_below (bw2.trans (bb.mono bw2.size)))⟩
   exact⟨rfl,by rw[hPO];exact⟨_,rfl,DskS.v hid0⟩⟩
  )
 have HZ:Hid (∀x (W:World),Calls Tryz.prog 39 #[.int .i64 x] W fun e w'=>e=.returned (.int .i64 x)/\w'=W):=fun x W=>num_any x W
 have kk:=hbx0.cell 1
 have kx:=hbx0.cell 2
 simp at kk kx
 clear h hr hB hPO b0 hbx0 hAB hAY h0 hss hrr
 go_enter Tryz.func13,Tryz.ntmps13
 go_wp2_with fail
 refine Calls.mono HL.out ?_
 rintro e w1 ⟨tv0,rv0,rfl,k4,k2,q⟩
 have H1:=hid q
 clear q HL kx kk
 go_wp2_with fail
 refine Calls.mono H1.out ?_
 rintro e w2 ⟨tv,rv,rfl,c1,q⟩
 have H2:=hid q
 clear q H1
 go_wp2_with fail
 refine Calls.mono H2.out ?_
 rintro e w3 ⟨code,rfl,d2,q⟩
 have H3:=hid q
 clear q H2
 go_wp2_with fail
 refine Calls.mono H3.out ?_
 rintro e w4 ⟨rfl,q⟩
 have FIN:=hid q
 clear q H3 d2
 go_wp2_with fail
 refine Calls.mono (HZ.out _ _) ?_
 rintro e w9 ⟨rfl,hw9⟩
 rw[hw9]
 clear hw9
 go_wp2_with fail
 exact FIN.out
theorem Dsk.actOther{ob:Nat}(h:Dsk Gm B w ob M)(hM:M<=268435455)(wh kd tx at_ fl:Int)(ra:Option Addr)(rn rc:Nat)(oo:Nat)(n1:(kd == 1)=false)(n2:(kd == 2)=false)(n3:(kd == 3)=false)(n4:(kd == 4)=false)(n5:(kd == 5)=false)(n6:(kd == 6)=false)(n7:(kd == 7)=false)(n8:(kd == 8)=false)(n9:(kd == 9)=false)(n10:(kd == 10)=false)(n11:(kd == 11)=false)(n12:(kd == 12)=false):Calls Tryz.prog 13 #[.pointer (some ⟨ob,0,none⟩),(.agg #[.int .i64 wh,.int .i64 kd,.int .i64 tx,.int .i64 at_,.int .i64 fl,.slice ra rn rc]),.pointer (some ⟨oo,0,none⟩)] w (ActW Gm B w ob (M+1)):=by
 obtain⟨PO,hPO⟩:∃PO:Ending->World->Prop,PO=ActW Gm B w ob (M+1):=⟨_,rfl⟩
 rw[<- hPO]
 have b0:Below w.heap.size w (w.alloc (.cells #[.int .i64 wh,.int .i64 kd,.int .i64 tx,.int .i64 at_,.int .i64 fl,.slice ra rn rc] 42)):=(Below.refl _ _).alloc (Nat.le_refl _) _
 have hbx0:Bx (w.alloc (.cells #[.int .i64 wh,.int .i64 kd,.int .i64 tx,.int .i64 at_,.int .i64 fl,.slice ra rn rc] 42)) w.heap.size wh kd tx at_ fl (.slice ra rn rc):=alloc_new rfl _
 obtain⟨Y,v,h,hr,hB⟩:=h
 have hAB:¬B w.heap.size:=fun e=>by
  have:=h.lt ((hB _).1 e)
  omega
 have hAY:¬Y w.heap.size:=fun e=>hAB ((hB _).2 (.inl e))
 have FIN:Hid (PO (.returned (.tuple #[.bool true,.slice none 0 0])) (w.alloc (.cells #[.int .i64 wh,.int .i64 kd,.int .i64 tx,.int .i64 at_,.int .i64 fl,.slice ra rn rc] 42))):=by
  rw[hPO]
  exact⟨_,rfl,DskS.v ⟨B,⟨Y,v,h.low b0,hr.mono (Nat.le_succ M),hB⟩,fun _ _ e=>e,But.of_below b0⟩⟩
 have kk:=hbx0.cell 1
 simp at kk
 have _:=hM
 clear h hr hB hPO b0 hbx0 hAB hAY hM
 go_enter Tryz.func13,Tryz.ntmps13
 go_wp2_with fail
 exact FIN.out
open Go.RowKit Go.Deep
variable {Gm:Nat×Nat×Nat}
structure Rgn (Gm:Nat×Nat×Nat) (M:Nat) (v v':Dv) (way:List Pu):Prop where
 roff:v'.r.off=false
 doff:v'.d.off=true
 ds:v'.r.Ds=v.r.Ds++(if way.isEmpty then [] else [way])
 ct:∃lo,∃home Ts,Cut v'.d v.nb v.fr v.bl lo home Ts/\Hc v.nb v.fr v.bl home Ts v.r.Fs v'.r.Ds lo v.r.sure/\Ts.length<=M+1
 nb:v'.nb=v.nb
 fr:v'.fr=v.fr
 bl:v'.bl=v.bl
 fs:v'.r.Fs=v.r.Fs
 wl:way.length<=M
 gr:Gm=(v.nb,v.fr,v.bl)
 fz:v.r.Fs=List.replicate v.nb (strOfNums (zeros 512))
def DskG (Gm:Nat×Nat×Nat) (B:Nat->Prop) (w w':World) (ob M:Nat) (v:Dv) (way:List Pu):Prop:=∃B' Y' v',Dq Y' w' ob v'/\Rgn Gm M v v' way/\(∀k,B' k ↔ Ball Y' ob v' k)/\Gr B B' w/\But B w w'/\(way.isEmpty=false->w'.ownsRow 0 60 1 v'.r.dv v'.r.Ds.length (rowsD v'.r.rs v'.r.Ds))
theorem Dq.closeG{ob:Nat}{v:Dv}(hB:∀k,B k ↔ Ball Y ob v k)(h':Dq Y' w' ob v')(r':Rgn Gm M v v' way)(gY:Gr Y Y' w)(gD:∀k,Dset ob v' k->Dset ob v k\/w.heap.size<=k)(gx:∀x∈v'.xs,x∈v.xs\/w.heap.size<=x.1)(hb:But (fun k=>Y k\/Dset ob v k) w w')(ho:(way.isEmpty=false->w'.ownsRow 0 60 1 v'.r.dv v'.r.Ds.length (rowsD v'.r.rs v'.r.Ds))):DskG Gm B w w' ob M v way:=by
 refine⟨Ball Y' ob v',Y',v',h',r',fun _=>Iff.rfl,fun k hk e=>(hB k).2 ?_,hb.mono (fun k _ e=>(hB k).2 (e.elim .inl (fun q=>.inr (.inl q)))),ho⟩
 rcases e with e | e | ⟨x,hx,rfl⟩
 ·exact .inl (gY k hk e)
 ·rcases gD k e with q | q
  ·exact .inr (.inl q)
  ·omega
 ·rcases gx x hx with q | q
  ·exact .inr (.inr ⟨x,q,rfl⟩)
  ·omega
theorem DskG.low{ob:Nat}{v:Dv}(b:Below w.heap.size w W)(h:DskG Gm B W w' ob M v way):DskG Gm B w w' ob M v way:=by
 obtain⟨B',Y',v',h1,h2,h3,h4,h5,h6⟩:=h
 have hs:=b.size
 exact⟨B',Y',v',h1,h2,h3,fun k hk e=>h4 k (by omega) e,(But.of_below b).trans h5,h6⟩
theorem Dq.commitBoth{ob:Nat}{v:Dv}(h:Dq Y w ob v)(hr:Rl Gm M v)(hB:∀k,B k ↔ Ball Y ob v k)(hM:M<=268435455)(hp:Pkd w v tv rv who) :
  Calls Tryz.prog 34 #[tv] w fun e w1=>∃code,e=.returned (.int .i64 code)/\But Y w w1/\Calls Tryz.prog 81 #[rv] w1 fun e' w2=>∃code',e'=.returned (.int .i64 code')/\((code'=code/\DskS Gm B w w2 ob (M+1))\/(code=24/\code'=0/\∃t,v.r.q=some t/\rv=ptrV t.g/\0<cntU t.ps t.ps.length/\cntU t.ps t.ps.length<=v.bl / 2-4/\DskG Gm B w w2 ob M v t.ps)):=by
 have hkb:=hr.kb
 have hnb:=hr.nb
 have hfit:=hr.fit
 obtain⟨lo,home,Ts,hon,hTs⟩:∃lo,∃home Ts,(v.d.off=false->On v.d v.s v.nb v.fr v.bl lo home Ts/\Hc v.nb v.fr v.bl home Ts v.r.Fs v.r.Ds lo v.r.sure)/\Ts.length<=M:=by
  cases ho:v.d.off with
  | true=>exact⟨0,fun _=>[],[],fun e=>by simp at e,by simp⟩
  | false=>
   obtain⟨lo,home,Ts,q2,q3,q4⟩:=hr.on ho
   exact⟨lo,home,Ts,fun _=>⟨q2,q3⟩,q4⟩
 refine Calls.mono (h.P.pg.commitF hr.lo hfit hnb hp.1 (ps:=psOf v.r) (fun q hq=>?_) (fun e=>(hon e).1) (by omega)) ?_
 ·obtain⟨t,ht⟩:=hr.opn hq
  obtain⟨hm,_⟩:=hr.op q t hq ht
  have:psOf v.r=t.ps:=by simp[psOf,ht]
  rw[this]
  exact hm.now
 rintro e w1 ⟨code,Y',o',d',s',rfl,q1,q2,q3,q4,q5,q6⟩
 obtain⟨hR1,_⟩:=h.prog q6 q5
 refine⟨code,rfl,q6,?_⟩
 refine Calls.mono (hR1.rf.commit hr.lo (by omega) (hr.ps hM) (by have:=hr.db.1;omega) (hp.ref h q6)) ?_
 rintro e' w2 ⟨rfl,r',s1,s2,s3,s4,s5⟩
 rw[hr.off]at s4 s5 ⊢
 refine⟨_,rfl,?_⟩
 by_cases hc:askW who v.d.off=0
 ·obtain⟨q,hq,rfl,hT,hN,hcase⟩:=q3 hc
  obtain⟨t,dv',rs',ht,⟨pv,mv,hO⟩,hown,rfl⟩:=s5 hc
  obtain⟨hm,h2,h3,h4⟩:=hr.op q t hq ht
  have hps:psOf v.r=t.ps:=by simp[psOf,ht]
  obtain⟨rfl,hoff⟩:=askW_zero hc
  obtain⟨hO0,hK0⟩:=hon hoff
  have hdb:=hr.db
  rw[hps]at hcase ⊢
  have hcm:cmC v.bl v.d.off (some true) t.ps=if v.bl / 2-4<cntU t.ps t.ps.length then 44 else 0:=by
   unfold cmC
   rw[if_neg (by rw[hc];decide)]
  rw[hcm]
  have hpa:∀q9,v.o=some q9->(∃q',(none:Option OT)=some q'/\q'.t=q9.t)\/(Txb w1 q9.t v.j .nilIface v.st (.pointer none)/\¬Y' q9.t):=fun q9 e9=>.inr (by rw[hq]at e9;cases e9;exact⟨hT,hN⟩)
  have hra:∀t9,v.r.q=some t9->(∃t',(none:Option RT)=some t'/\t'.g=t9.g)\/∃pv mv,Rt5 w2 t9.g v.r.rb pv mv true:=fun t9 e9=>.inr (by rw[ht]at e9;cases e9;exact⟨pv,mv,hO⟩)
  have hsame:∀(Ds':List (List Pu)),Ds'=v.r.Ds->Ds'.length+134217728<=M+1/\∀ps∈Ds',ps.length<=M+1:=fun Ds' e=>by
   subst e
   exact⟨by omega,fun ps hps=>Nat.le_trans (hdb.2 ps hps) (Nat.le_succ M)⟩
  have hmore:(v.r.Ds++[t.ps]).length+134217728<=M+1/\∀ps∈v.r.Ds++[t.ps],ps.length<=M+1:=by
   refine⟨by rw[List.length_append,List.length_singleton];omega,fun ps hps=>?_⟩
   rcases List.mem_append.1 hps with q9 | q9
   ·have:=hdb.2 ps q9
    omega
   ·obtain rfl:ps=t.ps:=by simpa using q9
    omega
  rcases hcase with ⟨a1,a2,rfl,rfl⟩ | ⟨a1,a2,rfl,rfl⟩ | ⟨a1,a2,a3,a4⟩ | ⟨a1,a2,a3,a4,a5⟩
  ·refine .inl ⟨by rw[if_pos a2,a1],?_⟩
   rw[if_neg (fun e=>by omega)]at s1 s3
   exact h.both hB q6 q5 q4 q1 hpa s2 s1 rfl s3 hra (fun x hx=>by simp) (hr.endOp (v:=v) (K':=v.K) (by omega) rfl rfl hr.off.symm rfl (fun e=>⟨lo,home,Ts,hO0,hK0,by omega⟩) (fun e=>by rw[hoff]at e;cases e) hr.pl (hsame _ rfl))
  ·refine .inl ⟨by rw[if_neg (by omega),a1],?_⟩
   rw[if_neg (fun e=>by omega)]at s1 s3
   exact h.both hB q6 q5 q4 q1 hpa s2 s1 rfl s3 hra (fun x hx=>by simp) (hr.endOp (v:=v) (K':=v.K) (by omega) rfl rfl hr.off.symm rfl (fun e=>⟨lo,home,Ts,hO0,hK0,by omega⟩) (fun e=>by rw[hoff]at e;cases e) hr.pl (hsame _ rfl))
  ·refine .inl ⟨by rw[if_neg (by omega),a1],?_⟩
   rw[if_pos ⟨a3,a2⟩]at s1 s3
   have hpl:=a4.puts hr.lo hfit hnb
   exact h.both hB q6 q5 q4 q1 hpa s2 s1 rfl s3 hra (fun x hx=>by simp) (hr.endOp (v:=v) (K':=v.K) (by omega) (a4.on.trans hoff.symm) rfl hr.off.symm rfl (fun e=>⟨lo,home,_,a4,hK0.commit hm.now,by simp;omega⟩) (fun e=>by rw[a4.on]at e;cases e) (by omega) hmore)
  ·refine .inr ⟨a1,by rw[if_neg (by omega)],t,ht,?_,a2,a3,?_⟩
   ·obtain⟨t9,e8,e9⟩:=hp.2.1
    rw[ht]at e8
    cases e8
    exact e9
   rw[if_pos ⟨a3,a2⟩]at s1 s3
   obtain⟨D2,g2,c2⟩:=h.both2 q6 q5 q4 q1 hpa s2 s1 rfl s3 hra (fun x hx=>by simp)
   have hne:t.ps.isEmpty=false:=by
    cases hl:t.ps with
    | nil=>rw[hl]at a2;exact absurd a2 (by decide)
    | cons _ _=>rfl
   exact Dq.closeG hB D2 ⟨hoff,a4,by simp[hne],⟨lo,home,_,a5,hK0.commit hm.now,by simp;omega⟩,rfl,rfl,rfl,rfl,h3,hr.gr,hr.fs⟩ q5 g2 (fun x hx=>.inl hx) c2 (fun _=>by
    have:=hown ⟨a3,a2⟩
    simpa using this)
 ·obtain⟨rfl,rfl,rfl,rfl⟩:=q2 hc
  obtain rfl:=s4 hc
  refine .inl ⟨by unfold cmC;rw[if_pos hc],?_⟩
  exact h.both hB q6 q5 q4 q1 (fun q9 e9=>.inl ⟨q9,e9,rfl⟩) s2 s1 rfl s3 (fun t9 e9=>.inl ⟨t9,e9,rfl⟩) h.lk (hr.up (by omega))
theorem Dq.flushBoth{ob:Nat}{v:Dv}(h:Dq Y w ob v)(hr:Rl Gm M v)(hB:∀k,B k ↔ Ball Y ob v k)(hM:M<=268435455) :
  Calls Tryz.prog 30 #[ptrV v.st] w fun e w1=>∃code,e=.returned (.int .i64 code)/\DqR w1 ob v/\Calls Tryz.prog 42 #[ptrV v.r.rb] w1 fun e' w2=>∃code',e'=.returned (.int .i64 code')/\((code'=code/\DskS Gm B w w2 ob (M+1))\/(code=24/\code'=0/\DskG Gm B w w2 ob M v [])):=by
 have hkb:=hr.kb
 have _:=hM
 have hnb:=hr.nb
 have hop:∀q t,v.o=some q->v.r.q=some t->Mq v.nb v.fr v.bl q.a q.ms q.val t.ps t.ks/\q.n+q.ss.length<=2 * (M+1)/\t.ps.length<=M+1/\t.ks.length<=M+1:=fun q t e1 e2=>by
  obtain⟨m1,m2,m3,m4⟩:=hr.op q t e1 e2
  exact⟨m1,by omega,by omega,by omega⟩
 have hdb:v.r.Ds.length+134217728<=M+1/\∀ps∈v.r.Ds,ps.length<=M+1:=⟨Nat.le_trans hr.db.1 (Nat.le_succ M),fun ps hps=>Nat.le_trans (hr.db.2 ps hps) (Nat.le_succ M)⟩
 cases ho:v.d.off with
 | true=>
  refine Calls.mono (h.P.pg.flushOff ho) ?_
  rintro e w1 ⟨rfl,b⟩
  obtain⟨hR1,_⟩:=h.prog (Y':=fun k=>Y k/\k<w.heap.size) (But.of_below b) (fun k _ e=>e.1)
  refine⟨24,rfl,hR1,Calls.mono hR1.rf.flush ?_⟩
  rintro e' w2 ⟨rfl,sure',s1,s2,s3⟩
  rw[hr.off,ho,if_pos rfl]at s3
  subst s3
  refine⟨_,rfl,.inl ⟨by rw[hr.off,ho];rfl,?_⟩⟩
  refine h.both hB (But.of_below b) (fun k _ e=>e.1) (fun k e=>Nat.lt_of_lt_of_le e.2 b.size) (h.P.pg.cut.below b) (fun q9 e9=>.inl ⟨q9,e9,rfl⟩) s2 s1 rfl (fun k hk=>.inl hk) (fun t9 e9=>.inl ⟨t9,e9,rfl⟩) h.lk (hr.up (by omega))
 | false=>
  obtain⟨lo,home,Ts,m2,m3,m4⟩:=hr.on ho
  refine Calls.mono (h.P.pg.flushF m2 hr.lo hr.fit hr.nb) ?_
  rintro e w1 ⟨code,Y',d',s',rfl,q1,q3,q4,q5,q6⟩
  obtain⟨hR1,_⟩:=h.prog q6 q5
  refine⟨code,rfl,hR1,Calls.mono hR1.rf.flush ?_⟩
  rintro e' w2 ⟨rfl,sure',s1,s2,s3⟩
  rw[hr.off,ho,if_neg (by decide)]at s3
  subst s3
  refine⟨_,rfl,?_⟩
  rw[hr.off,ho,if_neg (by decide)]
  rcases q3 with ⟨a1,rfl,a3⟩ | ⟨a1,a2,a3⟩
  ·have hpl:=a3.puts hr.lo hr.fit hr.nb
   refine .inl ⟨a1.symm,?_⟩
   refine h.both hB q6 q5 q4 q1 (fun q9 e9=>.inl ⟨q9,e9,rfl⟩) s2 s1 rfl (fun k hk=>.inl hk) (fun t9 e9=>.inl ⟨t9,e9,rfl⟩) h.lk ⟨?_,fun e=>⟨Ts.length,home,Ts,a3,m3.flush,Nat.le_trans m4 (Nat.le_succ M)⟩,fun e=>?_,?_,hr.both,hop,Nat.le_trans hkb (Nat.le_succ M),hdb,Nat.le_trans hr.xb (Nat.le_succ M),hr.lo,hr.fit,hr.nb,hr.gr,hr.fs⟩
   ·exact (hr.off.trans ho).trans a3.on.symm
   ·rw[a3.on]at e
    cases e
   ·simp only
    omega
  ·refine .inr ⟨a1,rfl,?_⟩
   obtain⟨D2,g2,c2⟩:=h.both2 q6 q5 q4 q1 (fun q9 e9=>.inl ⟨q9,e9,rfl⟩) s2 s1 rfl (fun k hk=>.inl hk) (fun t9 e9=>.inl ⟨t9,e9,rfl⟩) h.lk
   exact Dq.closeG hB D2 ⟨hr.off.trans ho,a2,by simp,⟨lo,home,Ts,a3,m3,by omega⟩,rfl,rfl,rfl,rfl,by simp,hr.gr,hr.fs⟩ q5 g2 (fun x hx=>.inl hx) c2 (fun e=>by cases e)
end Go.Proofs.YthfojpcibnfmgaaGreat
