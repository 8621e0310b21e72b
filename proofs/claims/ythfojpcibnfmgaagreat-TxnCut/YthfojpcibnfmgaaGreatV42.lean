import Derived.Test.YthfojpcibnfmgaaGreatV41
import Derived.Test.YthfojpcibnfmgaaGreatV11
set_option maxRecDepth 100000
set_option maxHeartbeats 16000000
namespace Go.Proofs.YthfojpcibnfmgaaGreat
variable {B:Nat->Prop}
variable {w:World}
variable {M:Nat}
open Go.RowKit Go.Deep
variable {Gm:Nat×Nat×Nat}
def ActW (Gm:Nat×Nat×Nat) (B:Nat->Prop) (w:World) (ob M:Nat) (e:Ending) (w':World):Prop:=∃u,e=.returned (.tuple #[.bool true,u])/\DskV Gm B w w' ob M u
theorem Dsk.inSee{ob:Nat}(h:Dsk Gm B w ob M)(hM:M<=268435455)(wh tx at_ fl:Int)(ra:Option Addr)(rn rc:Nat)(hy1:-9223372036854775808<=at_)(hy2:at_<=9223372036854775807):Calls Tryz.prog 40 #[.pointer (some ⟨ob,0,none⟩),(.agg #[.int .i64 wh,.int .i64 2,.int .i64 tx,.int .i64 at_,.int .i64 fl,.slice ra rn rc])] w (ActW Gm B w ob (M+1)):=by
 obtain⟨PO,hPO⟩:∃PO:Ending->World->Prop,PO=ActW Gm B w ob (M+1):=⟨_,rfl⟩
 rw[<- hPO]
 obtain⟨Y,v,h,hr,hB⟩:=h
 have b0:Below w.heap.size w (w.alloc (.cells #[.int .i64 wh,.int .i64 2,.int .i64 tx,.int .i64 at_,.int .i64 fl,.slice ra rn rc] 42)):=(Below.refl _ _).alloc (Nat.le_refl _) _
 have hbx0:Bx (w.alloc (.cells #[.int .i64 wh,.int .i64 2,.int .i64 tx,.int .i64 at_,.int .i64 fl,.slice ra rn rc] 42)) w.heap.size wh 2 tx at_ fl (.slice ra rn rc):=alloc_new rfl _
 have hAB:¬B w.heap.size:=fun e=>by
  have:=h.lt ((hB _).1 e)
  omega
 have hAY:¬Y w.heap.size:=fun e=>hAB ((hB _).2 (.inl e))
 have HPk:Hid (Calls Tryz.prog 43 #[.pointer (some ⟨ob,0,none⟩),.int .i64 tx] (w.alloc (.cells #[.int .i64 wh,.int .i64 2,.int .i64 tx,.int .i64 at_,.int .i64 fl,.slice ra rn rc] 42)) fun e w1=>∃tv rv,e=.returned (.tuple #[tv,rv])/\w1.cell? ⟨w.heap.size,1,none⟩=some (.int .i64 2)/\w1.cell? ⟨w.heap.size,3,none⟩=some (.int .i64 at_)/\Calls Tryz.prog 28 #[tv,.int .i64 at_] w1 fun e w2=>∃u code,e=.returned (.tuple #[u,.int .i64 code])/\w2.cell? ⟨w.heap.size,3,none⟩=some (.int .i64 at_)/\Calls Tryz.prog 76 #[rv,.int .i64 at_] w2 fun e' w3=>∃S,e'=.returned (.tuple #[.string S,.int .i64 code])/\(convert 40 9 u).run Tryz.prog w3=.ok (.string S) w3/\PO (.returned (.tuple #[.bool true,u])) w3):=by
  refine Calls.mono ((h.low b0).pick43 hr hB hM tx) ?_
  rintro e w1 ⟨tv,rv,who,rfl,hp,hD,b1⟩
  have b01:Below w.heap.size w w1:=b0.trans (b1.mono b0.size)
  have b01a:w.heap.size<w1.heap.size:=by
   have:=b1.size
   simp at this
   omega
  have hbx:=hbx0.low b1
  have k1:=hbx.cell 1
  have k3:=hbx.cell 3
  have k4:=hbx.cell 4
  have k5:=hbx.cell 5
  simp at k1 k3 k4 k5
  refine⟨tv,rv,rfl,k1,?_⟩
  (
   refine⟨k3,Calls.mono (hD.seeBoth hr hB hM hp at_ hy1 hy2) ?_⟩
   rintro e w2 ⟨u,code,rfl,b12,q⟩
   have hb2:=hbx.but b12 hAY
   have k3':=hb2.cell 3
   simp at k3'
   refine⟨u,code,rfl,k3',Calls.mono q ?_⟩
   rintro e w3 ⟨S,rfl,q2,q3⟩
   exact⟨S,rfl,q2 0,by rw[hPO];exact⟨_,rfl,q3.low b01⟩⟩
  )
 have HZ:Hid (∀x (W:World),Calls Tryz.prog 39 #[.int .i64 x] W fun e w'=>e=.returned (.int .i64 x)/\w'=W):=fun x W=>num_any x W
 have kx:=hbx0.cell 2
 simp at kx
 clear h hr hB hPO b0 hbx0 hAB hAY
 go_enter Tryz.func40,Tryz.ntmps40
 go_wp2_with fail
 refine Calls.mono HPk.out ?_
 rintro e w1 ⟨tv,rv,rfl,k1,q⟩
 clear HPk kx
 obtain⟨k3,q⟩:=q
 have H2:=hid q
 clear q
 go_wp2_with fail
 refine Calls.mono H2.out ?_
 rintro e w2 ⟨u,code,rfl,k3',q⟩
 have H3:=hid q
 clear q H2 k3
 go_wp2_with fail
 refine Calls.mono H3.out ?_
 rintro e w3 ⟨S,rfl,hcv,q⟩
 have FIN:=hid q
 clear q H3 k3'
 go_wp2_with fail
 refine Calls.mono (HZ.out _ _) ?_
 rintro e w9 ⟨rfl,hw9⟩
 rw[hw9]
 clear hw9
 go_wp2_with fail
 exact FIN.out
theorem Dsk.inWrite{ob:Nat}(h:Dsk Gm B w ob M)(hM:M<=268435455)(wh tx at_ fl:Int)(ra:Option Addr)(rn rc:Nat)(hy1:-9223372036854775808<=at_)(hy2:at_<=9223372036854775807):Calls Tryz.prog 40 #[.pointer (some ⟨ob,0,none⟩),(.agg #[.int .i64 wh,.int .i64 3,.int .i64 tx,.int .i64 at_,.int .i64 fl,.slice ra rn rc])] w (ActW Gm B w ob (M+1)):=by
 obtain⟨PO,hPO⟩:∃PO:Ending->World->Prop,PO=ActW Gm B w ob (M+1):=⟨_,rfl⟩
 rw[<- hPO]
 obtain⟨Y,v,h,hr,hB⟩:=h
 have b0:Below w.heap.size w (w.alloc (.cells #[.int .i64 wh,.int .i64 3,.int .i64 tx,.int .i64 at_,.int .i64 fl,.slice ra rn rc] 42)):=(Below.refl _ _).alloc (Nat.le_refl _) _
 have hbx0:Bx (w.alloc (.cells #[.int .i64 wh,.int .i64 3,.int .i64 tx,.int .i64 at_,.int .i64 fl,.slice ra rn rc] 42)) w.heap.size wh 3 tx at_ fl (.slice ra rn rc):=alloc_new rfl _
 have hAB:¬B w.heap.size:=fun e=>by
  have:=h.lt ((hB _).1 e)
  omega
 have hAY:¬Y w.heap.size:=fun e=>hAB ((hB _).2 (.inl e))
 have HPk:Hid (Calls Tryz.prog 43 #[.pointer (some ⟨ob,0,none⟩),.int .i64 tx] (w.alloc (.cells #[.int .i64 wh,.int .i64 3,.int .i64 tx,.int .i64 at_,.int .i64 fl,.slice ra rn rc] 42)) fun e w1=>∃tv rv,e=.returned (.tuple #[tv,rv])/\w1.cell? ⟨w.heap.size,1,none⟩=some (.int .i64 3)/\w1.cell? ⟨w.heap.size,3,none⟩=some (.int .i64 at_)/\w1.cell? ⟨w.heap.size,4,none⟩=some (.int .i64 fl)/\Calls Tryz.prog 78 #[.int .i64 fl] w1.drew fun e w2=>∃g,e=.returned (.slice (some ⟨g,0,none⟩) 512 512)/\w2.cell? ⟨w.heap.size,3,none⟩=some (.int .i64 at_)/\w2.cell? ⟨w.heap.size,4,none⟩=some (.int .i64 fl)/\Calls Tryz.prog 77 #[.pointer (some ⟨ob,0,none⟩),tv,rv,.int .i64 at_,.slice (some ⟨g,0,none⟩) 512 512] w2 fun e w3=>e=.returned (.bool true)/\w3.cell? ⟨w.heap.size,3,none⟩=some (.int .i64 at_)/\w3.cell? ⟨w.heap.size,4,none⟩=some (.int .i64 fl)/\PO (.returned (.tuple #[.bool true,.slice none 0 0])) w3):=by
  refine Calls.mono ((h.low b0).pick43 hr hB hM tx) ?_
  rintro e w1 ⟨tv,rv,who,rfl,hp,hD,b1⟩
  have b01:Below w.heap.size w w1:=b0.trans (b1.mono b0.size)
  have b01a:w.heap.size<w1.heap.size:=by
   have:=b1.size
   simp at this
   omega
  have hbx:=hbx0.low b1
  have k1:=hbx.cell 1
  have k3:=hbx.cell 3
  have k4:=hbx.cell 4
  have k5:=hbx.cell 5
  simp at k1 k3 k4 k5
  refine⟨tv,rv,rfl,k1,?_⟩
  (
   refine⟨k3,k4,Calls.mono (Block_any fl w1.drew) ?_⟩
   rintro e w2 ⟨g,rfl,q1,q2,q3⟩
   have b12:Below w1.heap.size w1 w2:=((Below.refl w1.heap.size w1).drew).trans q3
   have hb2:=hbx.low b12
   have j3:=hb2.cell 3
   have j4:=hb2.cell 4
   simp at j3 j4
   have hD2:=hD.low b12
   have hgB:¬B g:=fun e=>by
    have:=hD.lt ((hB g).1 e)
    have e2:w1.heap.size<=g:=q1
    omega
   have hp2:Pkd w2 v tv rv who:=by
    refine⟨?_,hp.ref hD ((But.of_below b12).mono (X:=fun _=>False) (fun _ _ q=>q.elim)),hp.2.2⟩
    have hw:=hp.1
    cases who with
    | none=>exact hw
    | some b=>
     cases b with
     | true=>exact hw
     | false=>
      obtain⟨t,e1,ht⟩:=hw
      exact⟨t,e1,ht.keep (b12.block t ht.lt)⟩
   have hzl:(blkZ fl).length=512:=length_blkZ fl
   have hRd:RdN B w2 (some ⟨g,0,none⟩) 512 (blkZ fl):=by
    have:=RdN.of_blk (X:=B) q2 (isB_blkZ fl) hgB
    rw[hzl]at this
    exact this
   refine⟨g,rfl,j3,j4,Calls.mono (hD2.write77 hr hB hM hp2 at_ hy1 hy2 (some ⟨g,0,none⟩) 512 512 (blkZ fl) (by decide) hRd) ?_⟩
   rintro e w3 ⟨rfl,q4⟩
   obtain⟨B',_,_,b23⟩:=id q4
   have hb3:=hb2.but b23 (fun e=>by have:=hD.lt ((hB _).1 e);have:=(b01a:w.heap.size<w1.heap.size);exact hAB e)
   have i3:=hb3.cell 3
   have i4:=hb3.cell 4
   simp at i3 i4
   exact⟨rfl,i3,i4,by rw[hPO];exact⟨_,rfl,((DskS.v q4).low b12).low b01⟩⟩
  )
 have HZ:Hid (∀x (W:World),Calls Tryz.prog 39 #[.int .i64 x] W fun e w'=>e=.returned (.int .i64 x)/\w'=W):=fun x W=>num_any x W
 have kx:=hbx0.cell 2
 simp at kx
 clear h hr hB hPO b0 hbx0 hAB hAY
 go_enter Tryz.func40,Tryz.ntmps40
 go_wp2_with fail
 refine Calls.mono HPk.out ?_
 rintro e w1 ⟨tv,rv,rfl,k1,q⟩
 clear HPk kx
 obtain⟨k3,k4,q⟩:=q
 have H2:=hid q
 clear q
 go_upto_region 8 with fail
 refine Gz (S:=fun w'=>w'.cell? ⟨w.heap.size,3,none⟩=some (.int .i64 at_)/\w'.cell? ⟨w.heap.size,4,none⟩=some (.int .i64 fl)) ⟨k3,k4⟩ (fun hSS=>?_)
 refine Ti 0 rfl ?_
 refine Ti 1 rfl ?_
 refine Ti 2 rfl ?_
 refine Ti 3 rfl ?_
 try simp only[Act.put,zA,zB,zC]
 refine Ti 4 rfl ?_
 refine Ti 5 rfl ?_
 refine Ti 6 rfl ?_
 try simp only[Act.put,zA,zB,zC]
 refine Ri 7 rfl (fun K9 hK9=>?_)
 go_simp
 go_at_call 78
 refine Calls.mono H2.out ?_
 rintro e w2 ⟨g,rfl,j3,j4,q⟩
 have H3:=hid q
 clear q H2
 refine hK9.out _ _ ⟨j3,j4⟩ (fun hSS=>?_)
 try simp only[Act.put,zA,zB,zC]
 refine Ri 8 rfl (fun K9 hK9=>?_)
 go_simp
 go_at_call 77
 refine Calls.mono H3.out ?_
 rintro e w3 ⟨rfl,i3,i4,q⟩
 have FIN:=hid q
 clear q H3
 refine hK9.out _ _ ⟨i3,i4⟩ (fun hSS=>?_)
 try simp only[Act.put,zA,zB,zC]
 refine Ti 9 rfl ?_
 refine Ti 10 rfl ?_
 try simp only[Act.put,zA,zB,zC]
 refine Dn ?_
 clear hSS
 go_wp2_with fail
 exact FIN.out
theorem Dsk.inRaw{ob:Nat}(h:Dsk Gm B w ob M)(hM:M<=268435455)(wh tx at_ fl:Int)(ra:Option Addr)(rn rc:Nat)(hy1:-9223372036854775808<=at_)(hy2:at_<=9223372036854775807)(zs:List Int)(hrn:rn<=16777216)(hraw:RdN B w ra rn zs):Calls Tryz.prog 40 #[.pointer (some ⟨ob,0,none⟩),(.agg #[.int .i64 wh,.int .i64 4,.int .i64 tx,.int .i64 at_,.int .i64 fl,.slice ra rn rc])] w (ActW Gm B w ob (M+1)):=by
 obtain⟨PO,hPO⟩:∃PO:Ending->World->Prop,PO=ActW Gm B w ob (M+1):=⟨_,rfl⟩
 rw[<- hPO]
 obtain⟨Y,v,h,hr,hB⟩:=h
 have b0:Below w.heap.size w (w.alloc (.cells #[.int .i64 wh,.int .i64 4,.int .i64 tx,.int .i64 at_,.int .i64 fl,.slice ra rn rc] 42)):=(Below.refl _ _).alloc (Nat.le_refl _) _
 have hbx0:Bx (w.alloc (.cells #[.int .i64 wh,.int .i64 4,.int .i64 tx,.int .i64 at_,.int .i64 fl,.slice ra rn rc] 42)) w.heap.size wh 4 tx at_ fl (.slice ra rn rc):=alloc_new rfl _
 have hAB:¬B w.heap.size:=fun e=>by
  have:=h.lt ((hB _).1 e)
  omega
 have hAY:¬Y w.heap.size:=fun e=>hAB ((hB _).2 (.inl e))
 have HPk:Hid (Calls Tryz.prog 43 #[.pointer (some ⟨ob,0,none⟩),.int .i64 tx] (w.alloc (.cells #[.int .i64 wh,.int .i64 4,.int .i64 tx,.int .i64 at_,.int .i64 fl,.slice ra rn rc] 42)) fun e w1=>∃tv rv,e=.returned (.tuple #[tv,rv])/\w1.cell? ⟨w.heap.size,1,none⟩=some (.int .i64 4)/\w1.cell? ⟨w.heap.size,3,none⟩=some (.int .i64 at_)/\w1.cell? ⟨w.heap.size,5,none⟩=some (.slice ra rn rc)/\Calls Tryz.prog 77 #[.pointer (some ⟨ob,0,none⟩),tv,rv,.int .i64 at_,.slice ra rn rc] w1 fun e w3=>e=.returned (.bool true)/\PO (.returned (.tuple #[.bool true,.slice none 0 0])) w3):=by
  refine Calls.mono ((h.low b0).pick43 hr hB hM tx) ?_
  rintro e w1 ⟨tv,rv,who,rfl,hp,hD,b1⟩
  have b01:Below w.heap.size w w1:=b0.trans (b1.mono b0.size)
  have b01a:w.heap.size<w1.heap.size:=by
   have:=b1.size
   simp at this
   omega
  have hbx:=hbx0.low b1
  have k1:=hbx.cell 1
  have k3:=hbx.cell 3
  have k4:=hbx.cell 4
  have k5:=hbx.cell 5
  simp at k1 k3 k4 k5
  refine⟨tv,rv,rfl,k1,?_⟩
  (
   refine⟨k3,k5,Calls.mono (hD.write77 hr hB hM hp at_ hy1 hy2 ra rn rc zs hrn (hraw.but ((But.of_below b01).mono (X:=fun _=>False) (fun _ _ q=>q.elim)))) ?_⟩
   rintro e w3 ⟨rfl,q⟩
   exact⟨rfl,by rw[hPO];exact⟨_,rfl,(DskS.v q).low b01⟩⟩
  )
 have HZ:Hid (∀x (W:World),Calls Tryz.prog 39 #[.int .i64 x] W fun e w'=>e=.returned (.int .i64 x)/\w'=W):=fun x W=>num_any x W
 have kx:=hbx0.cell 2
 simp at kx
 clear h hr hB hPO b0 hbx0 hAB hAY hraw
 go_enter Tryz.func40,Tryz.ntmps40
 go_wp2_with fail
 refine Calls.mono HPk.out ?_
 rintro e w1 ⟨tv,rv,rfl,k1,q⟩
 clear HPk kx
 obtain⟨k3,k5,q⟩:=q
 have H2:=hid q
 clear q
 go_wp2_with fail
 refine Calls.mono H2.out ?_
 rintro e w3 ⟨rfl,q⟩
 have FIN:=hid q
 clear q H2
 go_wp2_with fail
 exact FIN.out
theorem Dsk.inMark{ob:Nat}(h:Dsk Gm B w ob M)(hM:M<=268435455)(wh tx at_ fl:Int)(ra:Option Addr)(rn rc:Nat):Calls Tryz.prog 40 #[.pointer (some ⟨ob,0,none⟩),(.agg #[.int .i64 wh,.int .i64 5,.int .i64 tx,.int .i64 at_,.int .i64 fl,.slice ra rn rc])] w (ActW Gm B w ob (M+1)):=by
 obtain⟨PO,hPO⟩:∃PO:Ending->World->Prop,PO=ActW Gm B w ob (M+1):=⟨_,rfl⟩
 rw[<- hPO]
 obtain⟨Y,v,h,hr,hB⟩:=h
 have b0:Below w.heap.size w (w.alloc (.cells #[.int .i64 wh,.int .i64 5,.int .i64 tx,.int .i64 at_,.int .i64 fl,.slice ra rn rc] 42)):=(Below.refl _ _).alloc (Nat.le_refl _) _
 have hbx0:Bx (w.alloc (.cells #[.int .i64 wh,.int .i64 5,.int .i64 tx,.int .i64 at_,.int .i64 fl,.slice ra rn rc] 42)) w.heap.size wh 5 tx at_ fl (.slice ra rn rc):=alloc_new rfl _
 have hAB:¬B w.heap.size:=fun e=>by
  have:=h.lt ((hB _).1 e)
  omega
 have hAY:¬Y w.heap.size:=fun e=>hAB ((hB _).2 (.inl e))
 have HPk:Hid (Calls Tryz.prog 43 #[.pointer (some ⟨ob,0,none⟩),.int .i64 tx] (w.alloc (.cells #[.int .i64 wh,.int .i64 5,.int .i64 tx,.int .i64 at_,.int .i64 fl,.slice ra rn rc] 42)) fun e w1=>∃tv rv,e=.returned (.tuple #[tv,rv])/\w1.cell? ⟨w.heap.size,1,none⟩=some (.int .i64 5)/\Calls Tryz.prog 29 #[tv] w1 fun e w2=>∃m code,e=.returned (.tuple #[.int .i64 m,.int .i64 code])/\Calls Tryz.prog 79 #[rv] w2 fun e' w3=>e'=.returned (.tuple #[.int .i64 m,.int .i64 code])/\PO (.returned (.tuple #[.bool true,.slice none 0 0])) w3):=by
  refine Calls.mono ((h.low b0).pick43 hr hB hM tx) ?_
  rintro e w1 ⟨tv,rv,who,rfl,hp,hD,b1⟩
  have b01:Below w.heap.size w w1:=b0.trans (b1.mono b0.size)
  have b01a:w.heap.size<w1.heap.size:=by
   have:=b1.size
   simp at this
   omega
  have hbx:=hbx0.low b1
  have k1:=hbx.cell 1
  have k3:=hbx.cell 3
  have k4:=hbx.cell 4
  have k5:=hbx.cell 5
  simp at k1 k3 k4 k5
  refine⟨tv,rv,rfl,k1,?_⟩
  (
   refine Calls.mono (hD.markBoth hr hB hM hp) ?_
   rintro e w2 ⟨m,code,rfl,_,q⟩
   refine⟨m,code,rfl,Calls.mono q ?_⟩
   rintro e w3 ⟨rfl,q⟩
   exact⟨rfl,by rw[hPO];exact⟨_,rfl,(DskS.v q).low b01⟩⟩
  )
 have HZ:Hid (∀x (W:World),Calls Tryz.prog 39 #[.int .i64 x] W fun e w'=>e=.returned (.int .i64 x)/\w'=W):=fun x W=>num_any x W
 have kx:=hbx0.cell 2
 simp at kx
 clear h hr hB hPO b0 hbx0 hAB hAY
 go_enter Tryz.func40,Tryz.ntmps40
 go_wp2_with fail
 refine Calls.mono HPk.out ?_
 rintro e w1 ⟨tv,rv,rfl,k1,q⟩
 clear HPk kx
 have H2:=hid q
 clear q
 go_wp2_with fail
 refine Calls.mono H2.out ?_
 rintro e w2 ⟨m,code,rfl,q⟩
 have H3:=hid q
 clear q H2
 go_wp2_with fail
 refine Calls.mono H3.out ?_
 rintro e w3 ⟨rfl,q⟩
 have FIN:=hid q
 clear q H3
 go_wp2_with fail
 refine Calls.mono (HZ.out _ _) ?_
 rintro e w9 ⟨rfl,hw9⟩
 rw[hw9]
 clear hw9
 go_wp2_with fail
 exact FIN.out
theorem Dsk.inBack{ob:Nat}(h:Dsk Gm B w ob M)(hM:M<=268435455)(wh tx at_ fl:Int)(ra:Option Addr)(rn rc:Nat):Calls Tryz.prog 40 #[.pointer (some ⟨ob,0,none⟩),(.agg #[.int .i64 wh,.int .i64 6,.int .i64 tx,.int .i64 at_,.int .i64 fl,.slice ra rn rc])] w (ActW Gm B w ob (M+1)):=by
 obtain⟨PO,hPO⟩:∃PO:Ending->World->Prop,PO=ActW Gm B w ob (M+1):=⟨_,rfl⟩
 rw[<- hPO]
 obtain⟨Y,v,h,hr,hB⟩:=h
 have b0:Below w.heap.size w (w.alloc (.cells #[.int .i64 wh,.int .i64 6,.int .i64 tx,.int .i64 at_,.int .i64 fl,.slice ra rn rc] 42)):=(Below.refl _ _).alloc (Nat.le_refl _) _
 have hbx0:Bx (w.alloc (.cells #[.int .i64 wh,.int .i64 6,.int .i64 tx,.int .i64 at_,.int .i64 fl,.slice ra rn rc] 42)) w.heap.size wh 6 tx at_ fl (.slice ra rn rc):=alloc_new rfl _
 have hAB:¬B w.heap.size:=fun e=>by
  have:=h.lt ((hB _).1 e)
  omega
 have hAY:¬Y w.heap.size:=fun e=>hAB ((hB _).2 (.inl e))
 have HPk:Hid (Calls Tryz.prog 43 #[.pointer (some ⟨ob,0,none⟩),.int .i64 tx] (w.alloc (.cells #[.int .i64 wh,.int .i64 6,.int .i64 tx,.int .i64 at_,.int .i64 fl,.slice ra rn rc] 42)) fun e w1=>∃tv rv,e=.returned (.tuple #[tv,rv])/\w1.cell? ⟨w.heap.size,1,none⟩=some (.int .i64 6)/\w1.cell? ⟨w.heap.size,3,none⟩=some (.int .i64 at_)/\Calls Tryz.prog 33 #[tv,.int .i64 at_] w1 fun e w2=>∃code,e=.returned (.int .i64 code)/\w2.cell? ⟨w.heap.size,3,none⟩=some (.int .i64 at_)/\Calls Tryz.prog 80 #[rv,.int .i64 at_] w2 fun e' w3=>e'=.returned (.int .i64 code)/\PO (.returned (.tuple #[.bool true,.slice none 0 0])) w3):=by
  refine Calls.mono ((h.low b0).pick43 hr hB hM tx) ?_
  rintro e w1 ⟨tv,rv,who,rfl,hp,hD,b1⟩
  have b01:Below w.heap.size w w1:=b0.trans (b1.mono b0.size)
  have b01a:w.heap.size<w1.heap.size:=by
   have:=b1.size
   simp at this
   omega
  have hbx:=hbx0.low b1
  have k1:=hbx.cell 1
  have k3:=hbx.cell 3
  have k4:=hbx.cell 4
  have k5:=hbx.cell 5
  simp at k1 k3 k4 k5
  refine⟨tv,rv,rfl,k1,?_⟩
  (
   refine⟨k3,Calls.mono (hD.backBoth hr hB hM hp at_) ?_⟩
   rintro e w2 ⟨code,rfl,b12,q⟩
   have hb2:=hbx.but b12 hAY
   have k3':=hb2.cell 3
   simp at k3'
   refine⟨code,rfl,k3',Calls.mono q ?_⟩
   rintro e w3 ⟨rfl,q⟩
   exact⟨rfl,by rw[hPO];exact⟨_,rfl,(DskS.v q).low b01⟩⟩
  )
 have HZ:Hid (∀x (W:World),Calls Tryz.prog 39 #[.int .i64 x] W fun e w'=>e=.returned (.int .i64 x)/\w'=W):=fun x W=>num_any x W
 have kx:=hbx0.cell 2
 simp at kx
 clear h hr hB hPO b0 hbx0 hAB hAY
 go_enter Tryz.func40,Tryz.ntmps40
 go_wp2_with fail
 refine Calls.mono HPk.out ?_
 rintro e w1 ⟨tv,rv,rfl,k1,q⟩
 clear HPk kx
 obtain⟨k3,q⟩:=q
 have H2:=hid q
 clear q
 go_wp2_with fail
 refine Calls.mono H2.out ?_
 rintro e w2 ⟨code,rfl,k3',q⟩
 have H3:=hid q
 clear q H2 k3
 go_wp2_with fail
 refine Calls.mono H3.out ?_
 rintro e w3 ⟨rfl,q⟩
 have FIN:=hid q
 clear q H3 k3'
 go_wp2_with fail
 refine Calls.mono (HZ.out _ _) ?_
 rintro e w9 ⟨rfl,hw9⟩
 rw[hw9]
 clear hw9
 go_wp2_with fail
 exact FIN.out
theorem Dsk.inAbort{ob:Nat}(h:Dsk Gm B w ob M)(hM:M<=268435455)(wh kd tx at_ fl:Int)(ra:Option Addr)(rn rc:Nat)(n2:(kd == 2)=false)(n3:(kd == 3)=false)(n4:(kd == 4)=false)(n5:(kd == 5)=false)(n6:(kd == 6)=false)(n8:(kd == 8)=false):Calls Tryz.prog 40 #[.pointer (some ⟨ob,0,none⟩),(.agg #[.int .i64 wh,.int .i64 kd,.int .i64 tx,.int .i64 at_,.int .i64 fl,.slice ra rn rc])] w (ActW Gm B w ob (M+1)):=by
 obtain⟨PO,hPO⟩:∃PO:Ending->World->Prop,PO=ActW Gm B w ob (M+1):=⟨_,rfl⟩
 rw[<- hPO]
 obtain⟨Y,v,h,hr,hB⟩:=h
 have b0:Below w.heap.size w (w.alloc (.cells #[.int .i64 wh,.int .i64 kd,.int .i64 tx,.int .i64 at_,.int .i64 fl,.slice ra rn rc] 42)):=(Below.refl _ _).alloc (Nat.le_refl _) _
 have hbx0:Bx (w.alloc (.cells #[.int .i64 wh,.int .i64 kd,.int .i64 tx,.int .i64 at_,.int .i64 fl,.slice ra rn rc] 42)) w.heap.size wh kd tx at_ fl (.slice ra rn rc):=alloc_new rfl _
 have hAB:¬B w.heap.size:=fun e=>by
  have:=h.lt ((hB _).1 e)
  omega
 have hAY:¬Y w.heap.size:=fun e=>hAB ((hB _).2 (.inl e))
 have HPk:Hid (Calls Tryz.prog 43 #[.pointer (some ⟨ob,0,none⟩),.int .i64 tx] (w.alloc (.cells #[.int .i64 wh,.int .i64 kd,.int .i64 tx,.int .i64 at_,.int .i64 fl,.slice ra rn rc] 42)) fun e w1=>∃tv rv,e=.returned (.tuple #[tv,rv])/\w1.cell? ⟨w.heap.size,1,none⟩=some (.int .i64 kd)/\Calls Tryz.prog 35 #[tv] w1 fun e w2=>∃code,e=.returned (.int .i64 code)/\Calls Tryz.prog 82 #[rv] w2 fun e' w3=>e'=.returned (.int .i64 code)/\PO (.returned (.tuple #[.bool true,.slice none 0 0])) w3):=by
  refine Calls.mono ((h.low b0).pick43 hr hB hM tx) ?_
  rintro e w1 ⟨tv,rv,who,rfl,hp,hD,b1⟩
  have b01:Below w.heap.size w w1:=b0.trans (b1.mono b0.size)
  have b01a:w.heap.size<w1.heap.size:=by
   have:=b1.size
   simp at this
   omega
  have hbx:=hbx0.low b1
  have k1:=hbx.cell 1
  have k3:=hbx.cell 3
  have k4:=hbx.cell 4
  have k5:=hbx.cell 5
  simp at k1 k3 k4 k5
  refine⟨tv,rv,rfl,k1,?_⟩
  (
   refine Calls.mono (hD.abortBoth hr hB hM hp) ?_
   rintro e w2 ⟨code,rfl,_,q⟩
   refine⟨code,rfl,Calls.mono q ?_⟩
   rintro e w3 ⟨rfl,q⟩
   exact⟨rfl,by rw[hPO];exact⟨_,rfl,(DskS.v q).low b01⟩⟩
  )
 have HZ:Hid (∀x (W:World),Calls Tryz.prog 39 #[.int .i64 x] W fun e w'=>e=.returned (.int .i64 x)/\w'=W):=fun x W=>num_any x W
 have kx:=hbx0.cell 2
 simp at kx
 clear h hr hB hPO b0 hbx0 hAB hAY
 go_enter Tryz.func40,Tryz.ntmps40
 go_wp2_with fail
 refine Calls.mono HPk.out ?_
 rintro e w1 ⟨tv,rv,rfl,k1,q⟩
 clear HPk kx
 have H2:=hid q
 clear q
 go_wp2_with fail
 refine Calls.mono H2.out ?_
 rintro e w2 ⟨code,rfl,q⟩
 have H3:=hid q
 clear q H2
 go_wp2_with fail
 refine Calls.mono H3.out ?_
 rintro e w3 ⟨rfl,q⟩
 have FIN:=hid q
 clear q H3
 go_wp2_with fail
 refine Calls.mono (HZ.out _ _) ?_
 rintro e w9 ⟨rfl,hw9⟩
 rw[hw9]
 clear hw9
 go_wp2_with fail
 exact FIN.out
open Go.RowKit Go.Deep
variable {Gm:Nat×Nat×Nat}
theorem Dsk.actRead{ob:Nat}(h:Dsk Gm B w ob M)(hM:M<=268435455)(wh tx at_ fl:Int)(ra:Option Addr)(rn rc:Nat)(oo:Nat):Calls Tryz.prog 13 #[.pointer (some ⟨ob,0,none⟩),(.agg #[.int .i64 wh,.int .i64 1,.int .i64 tx,.int .i64 at_,.int .i64 fl,.slice ra rn rc]),.pointer (some ⟨oo,0,none⟩)] w (ActW Gm B w ob (M+1)):=by
 obtain⟨PO,hPO⟩:∃PO:Ending->World->Prop,PO=ActW Gm B w ob (M+1):=⟨_,rfl⟩
 rw[<- hPO]
 have b0:Below w.heap.size w (w.alloc (.cells #[.int .i64 wh,.int .i64 1,.int .i64 tx,.int .i64 at_,.int .i64 fl,.slice ra rn rc] 42)):=(Below.refl _ _).alloc (Nat.le_refl _) _
 have hbx0:Bx (w.alloc (.cells #[.int .i64 wh,.int .i64 1,.int .i64 tx,.int .i64 at_,.int .i64 fl,.slice ra rn rc] 42)) w.heap.size wh 1 tx at_ fl (.slice ra rn rc):=alloc_new rfl _
 obtain⟨Y,v,h,hr,hB⟩:=h
 have hAB:¬B w.heap.size:=fun e=>by
  have:=h.lt ((hB _).1 e)
  omega
 have hAY:¬Y w.heap.size:=fun e=>hAB ((hB _).2 (.inl e))
 have h0:=h.low b0
 have hc:=h0.R.cells
 have hcd:=h0.R.cells
 have k3:(w.alloc (.cells #[.int .i64 wh,.int .i64 1,.int .i64 tx,.int .i64 at_,.int .i64 fl,.slice ra rn rc] 42)).cell? ⟨w.heap.size,3,none⟩=some (.int .i64 at_):=(hbx0.cell 3).trans rfl
 obtain⟨ss,hss⟩:∃ss,ss=v.st:=⟨_,rfl⟩
 obtain⟨rr,hrr⟩:∃rr,rr=v.r.rb:=⟨_,rfl⟩
 have HL:Hid (Calls Tryz.prog 27 #[.pointer (some ⟨ss,0,none⟩),.int .i64 at_] (w.alloc (.cells #[.int .i64 wh,.int .i64 1,.int .i64 tx,.int .i64 at_,.int .i64 fl,.slice ra rn rc] 42)).drew fun e w1=>∃u code,e=.returned (.tuple #[u,.int .i64 code])/\(w1.cell? ⟨ob,1,none⟩=some (.pointer (some ⟨ss,0,none⟩))/\w1.cell? ⟨w.heap.size,3,none⟩=some (.int .i64 at_))/\w1.cell? ⟨ob,2,none⟩=some (.pointer (some ⟨rr,0,none⟩))/\Calls Tryz.prog 38 #[.pointer (some ⟨rr,0,none⟩),.int .i64 at_] w1.drew fun e' w2=>∃S,e'=.returned (.tuple #[.string S,.int .i64 code])/\(w2.cell? ⟨ob,2,none⟩=some (.pointer (some ⟨rr,0,none⟩))/\w2.cell? ⟨w.heap.size,3,none⟩=some (.int .i64 at_))/\(convert 40 9 u).run Tryz.prog w2=.ok (.string S) w2/\PO (.returned (.tuple #[.bool true,u])) w2):=by
  rw[hss,hrr]
  have hd0:=h0.low (w':=(w.alloc (.cells #[.int .i64 wh,.int .i64 1,.int .i64 tx,.int .i64 at_,.int .i64 fl,.slice ra rn rc] 42)).drew) (Below.refl _ _).drew
  have bd:Below w.heap.size w (w.alloc (.cells #[.int .i64 wh,.int .i64 1,.int .i64 tx,.int .i64 at_,.int .i64 fl,.slice ra rn rc] 42)).drew:=b0.drew
  have hbxd:Bx (w.alloc (.cells #[.int .i64 wh,.int .i64 1,.int .i64 tx,.int .i64 at_,.int .i64 fl,.slice ra rn rc] 42)).drew w.heap.size wh 1 tx at_ fl (.slice ra rn rc):=hbx0
  refine Calls.mono (hd0.readBoth hr hB hM at_) ?_
  rintro e w1 ⟨u,code,rfl,hR1,b1,q⟩
  have hb1:=hbxd.but b1 hAY
  have j3:=hb1.cell 3
  simp at j3
  refine⟨u,code,rfl,⟨hR1.cells.2.1,j3⟩,hR1.cells.2.2.1,Calls.mono (q w1.drew (Below.refl _ _).drew) ?_⟩
  rintro e' w2 ⟨S,rfl,b2,q2,q3⟩
  have hR2:=(hR1.keep (X:=fun _=>False) (w':=w2) (But.of_below ((Below.refl w1.heap.size w1).drew.trans b2)) (fun _ _ q=>q))
  have hb2:=hb1.low ((Below.refl w1.heap.size w1).drew.trans b2)
  have i3:=hb2.cell 3
  simp at i3
  exact⟨S,rfl,⟨hR2.cells.2.2.1,i3⟩,q2 0,by rw[hPO];exact⟨_,rfl,q3.low bd⟩⟩
 have HZ:Hid (∀x (W:World),Calls Tryz.prog 39 #[.int .i64 x] W fun e w'=>e=.returned (.int .i64 x)/\w'=W):=fun x W=>num_any x W
 have c1:=hc.2.1
 unfold ptrV at c1
 rw[<- hss]at c1
 have kk:=hbx0.cell 1
 simp at kk
 clear h hr hB hPO b0 hbx0 hAB hAY h0 hc hcd hss hrr
 go_enter Tryz.func13,Tryz.ntmps13
 go_upto_region 3 with fail
 refine Gz (S:=fun w'=>w'.cell? ⟨ob,1,none⟩=some (.pointer (some ⟨ss,0,none⟩))/\w'.cell? ⟨w.heap.size,3,none⟩=some (.int .i64 at_)) ⟨c1,k3⟩ (fun hSS=>?_)
 refine Ti 0 rfl ?_
 refine Ti 1 rfl ?_
 refine Ti 2 rfl ?_
 refine Ti 3 rfl ?_
 try simp only[Act.put,zA,zB,zC]
 refine Ti 4 rfl ?_
 refine Ti 5 rfl ?_
 try simp only[Act.put,zA,zB,zC]
 refine Ri 6 rfl (fun K9 hK9=>?_)
 go_simp
 go_at_call 27
 refine Calls.mono HL.out ?_
 rintro e w1 ⟨u,code,rfl,j1,j2,q⟩
 have H2:=hid q
 clear q HL
 refine hK9.out _ _ j1 (fun hSS=>?_)
 try simp only[Act.put,zA,zB,zC]
 refine Ti 7 rfl ?_
 refine Ti 8 rfl ?_
 refine Ti 9 rfl ?_
 try simp only[Act.put,zA,zB,zC]
 refine Ti 10 rfl ?_
 refine Ti 11 rfl ?_
 try simp only[Act.put,zA,zB,zC]
 refine Dn ?_
 clear hSS
 obtain⟨_,j3⟩:=j1
 clear c1 k3 kk
 go_upto_region 4 with fail
 refine Gz (S:=fun w'=>w'.cell? ⟨ob,2,none⟩=some (.pointer (some ⟨rr,0,none⟩))/\w'.cell? ⟨w.heap.size,3,none⟩=some (.int .i64 at_)) ⟨j2,j3⟩ (fun hSS=>?_)
 refine Ti 0 rfl ?_
 refine Ti 1 rfl ?_
 refine Ti 2 rfl ?_
 try simp only[Act.put,zA,zB,zC]
 refine Ti 3 rfl ?_
 refine Ti 4 rfl ?_
 refine Ti 5 rfl ?_
 try simp only[Act.put,zA,zB,zC]
 refine Ri 6 rfl (fun K9 hK9=>?_)
 go_simp
 go_at_call 38
 refine Calls.mono H2.out ?_
 rintro e w2 ⟨S,rfl,i1,hcv,q⟩
 have FIN:=hid q
 clear q H2
 refine hK9.out _ _ i1 (fun hSS=>?_)
 try simp only[Act.put,zA,zB,zC]
 refine Ti 7 rfl ?_
 refine Ti 8 rfl ?_
 try simp only[Act.put,zA,zB,zC]
 refine Ti 9 rfl ?_
 refine Ti 10 rfl ?_
 refine Ti 11 rfl ?_
 try simp only[Act.put,zA,zB,zC]
 refine Dn ?_
 clear hSS i1
 go_wp2_with fail
 refine Calls.mono (HZ.out _ _) ?_
 rintro e w9 ⟨rfl,hw9⟩
 rw[hw9]
 clear hw9
 go_wp2_with fail
 exact FIN.out
end Go.Proofs.YthfojpcibnfmgaaGreat
