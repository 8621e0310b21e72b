import Derived.Test.YthfojpcibnfmgaaGreatV43
import Derived.Test.YthfojpcibnfmgaaGreatV11
set_option maxRecDepth 100000
set_option maxHeartbeats 16000000
namespace Go.Proofs.YthfojpcibnfmgaaGreat
variable {B X Y:Nat->Prop}
variable {w w':World}
variable {K M bl fr j k nb p st y:Nat}
variable {u:Value}
variable {r:Ra}
variable {d:Pd}
variable {Ts:List Tn}
open Go.RowKit Go.Deep
variable {Gm:Nat×Nat×Nat}
def ActC (Gm:Nat×Nat×Nat) (B:Nat->Prop) (w:World) (ob M:Nat) (v:Dv) (tx:Int) (e:Ending) (w':World):Prop:=(∃u,e=.returned (.tuple #[.bool true,u])/\DskV Gm B w w' ob (M+1) u)\/(e=.returned (.tuple #[.bool false,.slice none 0 0])/\∃t,v.r.q=some t/\pkR v tx=ptrV t.g/\0<cntU t.ps t.ps.length/\cntU t.ps t.ps.length<=v.bl / 2-4/\DskG Gm B w w' ob M v t.ps)
def ActF (Gm:Nat×Nat×Nat) (B:Nat->Prop) (w:World) (ob M:Nat) (v:Dv) (e:Ending) (w':World):Prop:=(∃u,e=.returned (.tuple #[.bool true,u])/\DskV Gm B w w' ob (M+1) u)\/(e=.returned (.tuple #[.bool false,.slice none 0 0])/\DskG Gm B w w' ob M v [])
theorem Dq.inCommit{ob:Nat}{v:Dv}(h:Dq Y w ob v)(hr:Rl Gm M v)(hB:∀k,B k ↔ Ball Y ob v k)(hM:M<=268435455)(wh tx at_ fl:Int)(ra:Option Addr)(rn rc:Nat):Calls Tryz.prog 40 #[.pointer (some ⟨ob,0,none⟩),(.agg #[.int .i64 wh,.int .i64 8,.int .i64 tx,.int .i64 at_,.int .i64 fl,.slice ra rn rc])] w (ActC Gm B w ob M v tx):=by
 obtain⟨PO,hPO⟩:∃PO:Ending->World->Prop,PO=ActC Gm B w ob M v tx:=⟨_,rfl⟩
 rw[<- hPO]
 have b0:Below w.heap.size w (w.alloc (.cells #[.int .i64 wh,.int .i64 8,.int .i64 tx,.int .i64 at_,.int .i64 fl,.slice ra rn rc] 42)):=(Below.refl _ _).alloc (Nat.le_refl _) _
 have hbx0:Bx (w.alloc (.cells #[.int .i64 wh,.int .i64 8,.int .i64 tx,.int .i64 at_,.int .i64 fl,.slice ra rn rc] 42)) w.heap.size wh 8 tx at_ fl (.slice ra rn rc):=alloc_new rfl _
 have hAB:¬B w.heap.size:=fun e=>by
  have:=h.lt ((hB _).1 e)
  omega
 have hAY:¬Y w.heap.size:=fun e=>hAB ((hB _).2 (.inl e))
 have HPk:Hid (Calls Tryz.prog 43 #[.pointer (some ⟨ob,0,none⟩),.int .i64 tx] (w.alloc (.cells #[.int .i64 wh,.int .i64 8,.int .i64 tx,.int .i64 at_,.int .i64 fl,.slice ra rn rc] 42)) fun e w1=>∃tv rv,e=.returned (.tuple #[tv,rv])/\w1.cell? ⟨w.heap.size,1,none⟩=some (.int .i64 8)/\Calls Tryz.prog 34 #[tv] w1 fun e w2=>∃code,e=.returned (.int .i64 code)/\Calls Tryz.prog 81 #[rv] w2 fun e' w3=>∃code',e'=.returned (.int .i64 code')/\((code'=code/\PO (.returned (.tuple #[.bool true,.slice none 0 0])) w3)\/(code=24/\code'=0/\PO (.returned (.tuple #[.bool false,.slice none 0 0])) w3))):=by
  refine Calls.mono ((h.low b0).pickF hr hB hM tx) ?_
  rintro e w1 ⟨who,rfl,hp,hD,b1⟩
  have b01:Below w.heap.size w w1:=b0.trans (b1.mono b0.size)
  have b01a:w.heap.size<w1.heap.size:=by
   have:=b1.size
   simp at this
   omega
  have hbx:=hbx0.low b1
  have k1:=hbx.cell 1
  have k3:=hbx.cell 3
  have k4:=hbx.cell 4
  have k5:=hbx.cell 5
  simp at k1 k3 k4 k5
  refine⟨_,_,rfl,k1,?_⟩
  (
   refine Calls.mono (hD.commitBoth hr hB hM hp) ?_
   rintro e w2 ⟨code,rfl,_,q⟩
   refine⟨code,rfl,Calls.mono q ?_⟩
   rintro e w3 ⟨code',rfl,q | ⟨q1,q2,t,q3,q4,q5,q6,q7⟩⟩
   ·exact⟨code',rfl,.inl ⟨q.1,by rw[hPO];exact .inl ⟨_,rfl,(DskS.v q.2).low b01⟩⟩⟩
   ·exact⟨code',rfl,.inr ⟨q1,q2,by rw[hPO];exact .inr ⟨rfl,t,q3,q4,q5,q6,q7.low b01⟩⟩⟩
  )
 have HZ:Hid (∀x (W:World),Calls Tryz.prog 39 #[.int .i64 x] W fun e w'=>e=.returned (.int .i64 x)/\w'=W):=fun x W=>num_any x W
 have kx:=hbx0.cell 2
 simp at kx
 clear h hr hB hPO b0 hbx0 hAB hAY
 go_enter Tryz.func40,Tryz.ntmps40
 go_wp2_with fail
 refine Calls.mono HPk.out ?_
 rintro e w1 ⟨tv,rv,rfl,k1,q⟩
 clear HPk kx
 have H2:=hid q
 clear q
 go_wp2_with fail
 refine Calls.mono H2.out ?_
 rintro e w2 ⟨code,rfl,q⟩
 have H3:=hid q
 clear q H2
 go_wp2_with fail
 refine Calls.mono H3.out ?_
 rintro e w3 ⟨code',rfl,q | q⟩
 ·obtain⟨rfl,q⟩:=q
  have FIN:=hid q
  clear q H3
  go_wp2_with fail
  refine Calls.mono (HZ.out _ _) ?_
  rintro e w9 ⟨rfl,hw9⟩
  rw[hw9]
  clear hw9
  go_wp2_with fail
  exact FIN.out
 ·obtain⟨rfl,rfl,q⟩:=q
  have FIN:=hid q
  clear q H3
  go_wp2_with fail
  refine Calls.mono (HZ.out _ _) ?_
  rintro e w9 ⟨rfl,hw9⟩
  rw[hw9]
  clear hw9
  go_wp2_with fail
  exact FIN.out
theorem Dq.actICommit{ob:Nat}{v:Dv}(h:Dq Y w ob v)(hr:Rl Gm M v)(hB:∀k,B k ↔ Ball Y ob v k)(hM:M<=268435455)(wh tx at_ fl:Int)(ra:Option Addr)(rn rc:Nat)(oo:Nat):Calls Tryz.prog 13 #[.pointer (some ⟨ob,0,none⟩),(.agg #[.int .i64 wh,.int .i64 8,.int .i64 tx,.int .i64 at_,.int .i64 fl,.slice ra rn rc]),.pointer (some ⟨oo,0,none⟩)] w (ActC Gm B w ob M v tx):=by
 obtain⟨PO,hPO⟩:∃PO:Ending->World->Prop,PO=ActC Gm B w ob M v tx:=⟨_,rfl⟩
 rw[<- hPO]
 have b0:Below w.heap.size w (w.alloc (.cells #[.int .i64 wh,.int .i64 8,.int .i64 tx,.int .i64 at_,.int .i64 fl,.slice ra rn rc] 42)):=(Below.refl _ _).alloc (Nat.le_refl _) _
 have hbx0:Bx (w.alloc (.cells #[.int .i64 wh,.int .i64 8,.int .i64 tx,.int .i64 at_,.int .i64 fl,.slice ra rn rc] 42)) w.heap.size wh 8 tx at_ fl (.slice ra rn rc):=alloc_new rfl _
 have HL:Hid (Calls Tryz.prog 40 #[.pointer (some ⟨ob,0,none⟩),(.agg #[.int .i64 wh,.int .i64 8,.int .i64 tx,.int .i64 at_,.int .i64 fl,.slice ra rn rc])] (w.alloc (.cells #[.int .i64 wh,.int .i64 8,.int .i64 tx,.int .i64 at_,.int .i64 fl,.slice ra rn rc] 42)) fun e w1=>∃b u,e=.returned (.tuple #[.bool b,u])/\PO (.returned (.tuple #[.bool b,u])) w1):=by
  refine Calls.mono ((h.low b0).inCommit hr hB hM wh tx at_ fl ra rn rc) ?_
  rintro e w1 (⟨u,rfl,q⟩ | ⟨rfl,t,q3,q4,q5,q6,q7⟩)
  ·exact⟨true,u,rfl,by rw[hPO];exact .inl ⟨_,rfl,q.low b0⟩⟩
  ·exact⟨false,_,rfl,by rw[hPO];exact .inr ⟨rfl,t,q3,q4,q5,q6,q7.low b0⟩⟩
 have c0:=hbx0.cell 0
 have c1:=hbx0.cell 1
 have c2:=hbx0.cell 2
 have c3:=hbx0.cell 3
 have c4:=hbx0.cell 4
 have c5:=hbx0.cell 5
 simp at c0 c1 c2 c3 c4 c5
 clear h hr hB hPO b0 hbx0
 go_enter Tryz.func13,Tryz.ntmps13
 go_wp2_with fail
 refine Calls.mono HL.out ?_
 rintro e w1 ⟨b,u,rfl,q⟩
 have FIN:=hid q
 clear q HL
 go_wp2_with fail
 exact FIN.out
theorem Dq.actFlush{ob:Nat}{v:Dv}(h:Dq Y w ob v)(hr:Rl Gm M v)(hB:∀k,B k ↔ Ball Y ob v k)(hM:M<=268435455)(wh tx at_ fl:Int)(ra:Option Addr)(rn rc:Nat)(oo:Nat):Calls Tryz.prog 13 #[.pointer (some ⟨ob,0,none⟩),(.agg #[.int .i64 wh,.int .i64 10,.int .i64 tx,.int .i64 at_,.int .i64 fl,.slice ra rn rc]),.pointer (some ⟨oo,0,none⟩)] w (ActF Gm B w ob M v):=by
 obtain⟨PO,hPO⟩:∃PO:Ending->World->Prop,PO=ActF Gm B w ob M v:=⟨_,rfl⟩
 rw[<- hPO]
 have b0:Below w.heap.size w (w.alloc (.cells #[.int .i64 wh,.int .i64 10,.int .i64 tx,.int .i64 at_,.int .i64 fl,.slice ra rn rc] 42)):=(Below.refl _ _).alloc (Nat.le_refl _) _
 have hbx0:Bx (w.alloc (.cells #[.int .i64 wh,.int .i64 10,.int .i64 tx,.int .i64 at_,.int .i64 fl,.slice ra rn rc] 42)) w.heap.size wh 10 tx at_ fl (.slice ra rn rc):=alloc_new rfl _
 have hAB:¬B w.heap.size:=fun e=>by
  have:=h.lt ((hB _).1 e)
  omega
 have hAY:¬Y w.heap.size:=fun e=>hAB ((hB _).2 (.inl e))
 have h0:=h.low b0
 have hc:=h0.R.cells
 obtain⟨ss,hss⟩:∃ss,ss=v.st:=⟨_,rfl⟩
 obtain⟨rr,hrr⟩:∃rr,rr=v.r.rb:=⟨_,rfl⟩
 have HL:Hid (Calls Tryz.prog 30 #[.pointer (some ⟨ss,0,none⟩)] (w.alloc (.cells #[.int .i64 wh,.int .i64 10,.int .i64 tx,.int .i64 at_,.int .i64 fl,.slice ra rn rc] 42)) fun e w1=>∃code,e=.returned (.int .i64 code)/\w1.cell? ⟨ob,2,none⟩=some (.pointer (some ⟨rr,0,none⟩))/\Calls Tryz.prog 42 #[.pointer (some ⟨rr,0,none⟩)] w1 fun e' w2=>∃code',e'=.returned (.int .i64 code')/\((code'=code/\PO (.returned (.tuple #[.bool true,.slice none 0 0])) w2)\/(code=24/\code'=0/\PO (.returned (.tuple #[.bool false,.slice none 0 0])) w2))):=by
  rw[hss,hrr]
  refine Calls.mono (h0.flushBoth hr hB hM) ?_
  rintro e w1 ⟨code,rfl,hR1,q⟩
  refine⟨code,rfl,hR1.cells.2.2.1,Calls.mono q ?_⟩
  rintro e' w2 ⟨code',rfl,q | ⟨q1,q2,q7⟩⟩
  ·exact⟨code',rfl,.inl ⟨q.1,by rw[hPO];exact .inl ⟨_,rfl,(DskS.v q.2).low b0⟩⟩⟩
  ·exact⟨code',rfl,.inr ⟨q1,q2,by rw[hPO];exact .inr ⟨rfl,q7.low b0⟩⟩⟩
 have HZ:Hid (∀x (W:World),Calls Tryz.prog 39 #[.int .i64 x] W fun e w'=>e=.returned (.int .i64 x)/\w'=W):=fun x W=>num_any x W
 have c1:=hc.2.1
 unfold ptrV at c1
 rw[<- hss]at c1
 have kk:=hbx0.cell 1
 simp at kk
 clear h hr hB hPO b0 hbx0 hAB hAY h0 hc hss hrr
 go_enter Tryz.func13,Tryz.ntmps13
 go_wp2_with fail
 refine Calls.mono HL.out ?_
 rintro e w1 ⟨code,rfl,d2,q⟩
 have H2:=hid q
 clear q HL c1
 go_wp2_with fail
 refine Calls.mono H2.out ?_
 rintro e w2 ⟨code',rfl,q | q⟩
 ·obtain⟨rfl,q⟩:=q
  have FIN:=hid q
  clear q H2 d2
  go_wp2_with fail
  refine Calls.mono (HZ.out _ _) ?_
  rintro e w9 ⟨rfl,hw9⟩
  rw[hw9]
  clear hw9
  go_wp2_with fail
  exact FIN.out
 ·obtain⟨rfl,rfl,q⟩:=q
  have FIN:=hid q
  clear q H2 d2
  go_wp2_with fail
  refine Calls.mono (HZ.out _ _) ?_
  rintro e w9 ⟨rfl,hw9⟩
  rw[hw9]
  clear hw9
  go_wp2_with fail
  exact FIN.out
structure Aw where
 wh:Int
 kd:Int
 tx:Int
 at_:Int
 fl:Int
 ra:Option Addr
 rn:Nat
 rc:Nat
def Aw.cells (a:Aw):Array Value:=#[.int .i64 a.wh,.int .i64 a.kd,.int .i64 a.tx,.int .i64 a.at_,.int .i64 a.fl,.slice a.ra a.rn a.rc]
def Aw.val (a:Aw):Value:=.agg a.cells
structure AwOk (B:Nat->Prop) (w:World) (a:Aw):Prop where
 lo:-9223372036854775808<=a.at_
 hi:a.at_<=9223372036854775807
 rn:a.rn<=16777216
 raw:∃zs,RdN B w a.ra a.rn zs
def ActL (Gm:Nat×Nat×Nat) (B:Nat->Prop) (w:World) (ob M:Nat) (v:Dv) (a:Aw) (e:Ending) (w':World):Prop:=(∃u,e=.returned (.tuple #[.bool true,u])/\DskS Gm B w w' ob (M+1))\/(e=.returned (.tuple #[.bool false,.slice none 0 0])/\((a.kd=8/\∃t,v.r.q=some t/\pkR v a.tx=ptrV t.g/\0<cntU t.ps t.ps.length/\cntU t.ps t.ps.length<=v.bl / 2-4/\DskG Gm B w w' ob M v t.ps)\/(a.kd=10/\DskG Gm B w w' ob M v [])))
theorem DskV.s{ob:Nat}(h:DskV Gm B w w' ob M u):DskS Gm B w w' ob M:=by
 obtain⟨B',zs,h1,h2,h3,_⟩:=h
 exact⟨B',h1,h2,h3⟩
theorem Dq.act{ob:Nat}{v:Dv}(h:Dq Y w ob v)(hr:Rl Gm M v)(hB:∀k,B k ↔ Ball Y ob v k)(hM:M<=268435455)(a:Aw)(ha:AwOk B w a):Calls Tryz.prog 13 #[.pointer (some ⟨ob,0,none⟩),a.val,.pointer (some ⟨ob,0,none⟩)] w (ActL Gm B w ob M v a):=by
 obtain⟨wh,kd,tx,at_,fl,ra,rn,rc⟩:=a
 obtain⟨h3,h4,h5,zs,h6⟩:=ha
 unfold Aw.val Aw.cells
 simp only at h3 h4 h5 h6 ⊢
 have D:Dsk Gm B w ob M:=⟨Y,v,h,hr,hB⟩
 have T:∀e w',ActW Gm B w ob (M+1) e w'->ActL Gm B w ob M v ⟨wh,kd,tx,at_,fl,ra,rn,rc⟩ e w':=fun e w' ⟨u,e1,e2⟩=>.inl ⟨u,e1,e2.s⟩
 by_cases e8:kd=8
 ·rw[e8]
  refine Calls.mono (h.actICommit hr hB hM wh tx at_ fl ra rn rc ob) ?_
  rintro e w' (⟨u,e1,e2⟩ | ⟨e1,e2⟩)
  ·exact .inl ⟨u,e1,e2.s⟩
  ·exact .inr ⟨e1,.inl ⟨rfl,e2⟩⟩
 by_cases e10:kd=10
 ·rw[e10]
  refine Calls.mono (h.actFlush hr hB hM wh tx at_ fl ra rn rc ob) ?_
  rintro e w' (⟨u,e1,e2⟩ | ⟨e1,e2⟩)
  ·exact .inl ⟨u,e1,e2.s⟩
  ·exact .inr ⟨e1,.inr ⟨rfl,e2⟩⟩
 refine Calls.mono ?_ T
 by_cases e1:kd=1
 ·rw[e1];exact D.actRead hM _ _ _ _ _ _ _ _
 by_cases e2:kd=2
 ·rw[e2];exact D.actISee hM _ _ _ _ _ _ _ _ h3 h4
 by_cases e3:kd=3
 ·rw[e3];exact D.actIWrite hM _ _ _ _ _ _ _ _ h3 h4
 by_cases e4:kd=4
 ·rw[e4];exact D.actIRaw hM _ _ _ _ _ _ _ _ h3 h4 zs h5 h6
 by_cases e5:kd=5
 ·rw[e5];exact D.actIMark hM _ _ _ _ _ _ _ _
 by_cases e6:kd=6
 ·rw[e6];exact D.actIBack hM _ _ _ _ _ _ _ _
 by_cases e7:kd=7
 ·rw[e7];exact D.actBegin hM _ _ _ _ _ _ _ _
 by_cases e9:kd=9
 ·rw[e9];exact D.actIAbort hM _ _ _ _ _ _ _ _
 by_cases e11:kd=11
 ·rw[e11]
  by_cases e:(bits .and .i64 fl 1 == 1)=true
  ·exact D.actOwnsSelf hM _ _ _ _ _ _ _ e
  ·exact D.actOwnsEven hM _ _ _ _ _ _ _ _ (by simpa using e)
 by_cases e12:kd=12
 ·rw[e12];exact D.actOff hM _ _ _ _ _ _ _ _
 have F:∀ {x:Int},¬kd=x->(kd == x)=false:=fun q=>by simpa using q
 exact D.actOther hM _ _ _ _ _ _ _ _ _ (F e1) (F e2) (F e3) (F e4) (F e5) (F e6) (F e7) (F e8) (F e9) (F e10) (F e11) (F e12)
open Go.RowKit Go.Deep
structure Rdn (w:World) (nb fr bl:Nat) (r:Ra):Prop where
 sto:∃ov,Rs5 w r.rb nb fr bl r.fv r.dv r.sure ov r.off
 fst:w.ownsRow 0 9 1 r.fv nb (r.Fs.map Value.string)
 fsl:r.Fs.length=nb
 don:rowD w 60 r.dv r.Ds.length (rowsD r.rs r.Ds)
 rsl:r.rs.length=r.Ds.length
 din:∀(i:Nat) (x:Nat×Nat) (ps:List Pu),r.rs[i]?=some x->r.Ds[i]?=some ps->w.ownsRow 0 150 2 (.slice (some ⟨x.1,0,none⟩) ps.length x.2) ps.length (puCells ps)
def Rnset (r:Ra) (k:Nat):Prop:=k=r.rb\/r.fv.ownBlock=some k\/r.dv.ownBlock=some k\/∃x∈r.rs,k=x.1
theorem Rsd.rdn(h:Rsd w nb fr bl r):Rdn w nb fr bl r:=⟨⟨_,h.sto⟩,h.fst,h.fsl,h.don,h.rsl,h.din⟩
theorem Rdn.lt(h:Rdn w nb fr bl r)(hk:Rnset r k):k<w.heap.size:=by
 obtain⟨ov,hs⟩:=h.sto
 rcases hk with rfl | hk | hk | ⟨x,hx,rfl⟩
 ·exact hs.lt
 ·exact (World.ownsRow.lt h.fst k hk).2
 ·exact (h.don.lt k hk).2
 ·obtain⟨i,hi⟩:=List.mem_iff_getElem?.1 hx
  obtain⟨ps,hps⟩:∃ps,r.Ds[i]?=some ps:=⟨_,List.getElem?_eq_getElem (by have:=(List.getElem?_eq_some_iff.1 hi).1;rw[<- h.rsl];exact this)⟩
  exact (World.ownsRow.lt (h.din i x ps hi hps) x.1 rfl).2
theorem Rdn.keep(h:Rdn w nb fr bl r)(hk:∀k,Rnset r k->w'.heap[k]?=w.heap[k]?):Rdn w' nb fr bl r where
 sto:=by
  obtain⟨ov,hs⟩:=h.sto
  exact⟨ov,hs.keep (hk _ (.inl rfl))⟩
 fst:=owns_keep h.fst (fun k e=>hk k (.inr (.inl e)))
 fsl:=h.fsl
 don:=h.don.keep (fun k e=>hk k (.inr (.inr (.inl e))))
 rsl:=h.rsl
 din:=fun i x ps h1 h2=>owns_keep (h.din i x ps h1 h2) (fun k e=>by
  have:x.1=k:=by simpa [Value.ownBlock] using e
  subst this
  exact hk _ (.inr (.inr (.inr ⟨x,List.mem_of_getElem? h1,rfl⟩))))
theorem Rdn.but(h:Rdn w nb fr bl r)(hb:But X w w')(hx:∀k,Rnset r k->¬X k):Rdn w' nb fr bl r:=h.keep (fun k hk=>hb.block k (h.lt hk) (hx k hk))
theorem Rdn.str(h:Rdn w nb fr bl r):StrR w r.fv r.Fs:=StrL.of_row h.fsl h.fst
theorem Rdn.done(h:Rdn w nb fr bl r):∃da dc,r.dv=.slice da r.Ds.length dc/\DoneL w da r.Ds:=by
 obtain⟨da,dc,e,_⟩:=rowD.slice h.don
 refine⟨da,dc,e,fun i ps hps=>?_⟩
 have hil:=(List.getElem?_eq_some_iff.1 hps).1
 obtain⟨x,hx⟩:∃x,r.rs[i]?=some x:=⟨_,List.getElem?_eq_getElem (by rw[h.rsl];exact hil)⟩
 have hd:=h.don
 obtain⟨g,c2,q1⟩:=rowD.addr hd (by omega)
 rw[e]at q1
 have e2:da=some ⟨g,0,none⟩:=by injection q1
 subst e2
 rw[e]at hd
 obtain⟨a,c,q3,q4⟩:=PutsL.of_row (h.din i x ps hx hps) rfl
 have e3:a=some ⟨x.1,0,none⟩:=by injection q3 with e3;exact e3.symm
 subst e3
 exact⟨g,some ⟨x.1,0,none⟩,x.2,rfl,(rowD.cellAt hd i (by omega)).trans (rowsD_get hx hps),q4⟩
theorem Rdn.holds(h:Rdn w nb fr bl r)(hnb:nb<=524288)(hDl:r.Ds.length<=1073741823)(hpl:∀ps∈r.Ds,ps.length<=1073741823)(y:Nat)(hy:y<nb)(k:Nat)(hk:k<=r.Ds.length) :
  Calls Tryz.prog 58 #[.pointer (some ⟨r.rb,0,none⟩),.int .i64 (y:Int),.int .i64 (k:Int)] w fun e w'=>e=.returned (.string (holdsU (y:Int) (r.Fs.getD y ByteArray.empty) (r.Ds.take k)))/\w'=w:=by
 obtain⟨ov,hs⟩:=h.sto
 obtain⟨da,dc,e1,hD⟩:=h.done
 rw[e1]at hs
 have hF:r.Fs[y]?=some (r.Fs.getD y ByteArray.empty):=by
  rw[List.getD_eq_getElem?_getD,List.getElem?_eq_getElem (by rw[h.fsl];exact hy)]
  rfl
 exact rholds5_any hs h.str hD hnb y _ hF h.fsl k hk (by omega) hpl
theorem bloop_eq(bs:ByteArray)(i:Nat)(r:List UInt8):ByteArray.toList.loop bs i r=r.reverse++bs.data.toList.drop i:=by
 obtain⟨n,hn⟩:∃n,n=bs.size-i:=⟨_,rfl⟩
 induction n generalizing i r with
 | zero=>
  unfold ByteArray.toList.loop
  rw[if_neg (by omega),List.drop_eq_nil_of_le (by simp;omega)]
  simp
 | succ n ih=>
  unfold ByteArray.toList.loop
  have h:i<bs.size:=by omega
  rw[if_pos h,ih (i+1) _ (by omega)]
  have h':i<bs.data.toList.length:=by simpa using h
  rw[List.drop_eq_getElem_cons h']
  simp only[List.reverse_cons,List.append_assoc,List.cons_append,List.nil_append]
  congr 2
  have hh:i<bs.data.size:=by simpa using h
  show (bs.data[i]!)=_
  rw[getElem!_pos bs.data i hh]
  simp
theorem btoList_inj{a b:ByteArray}(h:a.toList=b.toList):a=b:=by
 unfold ByteArray.toList at h
 rw[bloop_eq,bloop_eq]at h
 simp at h
 cases a;cases b
 simp_all
def Fnd (nb fr bl:Nat) (home:Nat->List Int) (Ts:List Tn) (Fs:List ByteArray) (Ds:List (List Pu)) (k:Nat):Prop:=∀y,HomeB nb fr bl y->∀F,Fs[y]?=some F->strOfNums (contT home Ts Ts.length y)=holdsU (y:Int) F (Ds.take k)
theorem homeC_of(h:HomeB nb fr bl y):homeC nb fr bl (y:Int)=0:=by
 have h1:=h.1
 have h2:=h.2
 unfold homeC
 rw[if_neg]
 rintro (q | q | q)
 ·omega
 ·omega
 ·exact h2 ⟨by omega,by omega⟩
def Sk (Y:Nat->Prop) (w0 w:World) (j c p st nb K fr bl:Nat) (d:Pd) (s:Js):Prop:=∃K1 Y1,K1<=K/\StO Y1 w j c p st nb K1 fr bl d s none/\(∀k,Y1 k->k<w.heap.size)/\Gr Y Y1 w0/\But Y w0 w
theorem found_any{ob c lo:Nat}{s:Js}{home:Nat->List Int}(hS:StO Y w j c p st nb K fr bl d s none)(hyb:∀k,Y k->k<w.heap.size)(hOn:On d s nb fr bl lo home Ts)(hR:Rdn w nb fr bl r)(hc:w.cell? ⟨ob,2,none⟩=some (.pointer (some ⟨r.rb,0,none⟩)))(hob:ob<w.heap.size)(hnR:∀k,Rnset r k->¬Y k)(hnO:¬Y ob)(hlo:16<=bl)(hfit:fr+bl<=nb)(hnb:nb<=524288)(hK:K+nb<=1152921504606846976)(k:Nat)(hk:k<=r.Ds.length)(hDl:r.Ds.length<=1073741823)(hpl:∀ps∈r.Ds,ps.length<=1073741823) :
  Calls Tryz.prog 22 #[.pointer (some ⟨ob,0,none⟩),.pointer (some ⟨st,0,none⟩),.int .i64 (k:Int)] w fun e w'=>∃b,e=.returned (.bool b)/\(b=true ↔ Fnd nb fr bl home Ts r.Fs r.Ds k)/\Sk Y w w' j c p st nb (K+nb) fr bl d s:=by
 obtain⟨PO,hPO⟩:∃PO:Ending->World->Prop,PO=fun e w'=>∃b,e=.returned (.bool b)/\(b=true ↔ Fnd nb fr bl home Ts r.Fs r.Ds k)/\Sk Y w w' j c p st nb (K+nb) fr bl d s:=⟨_,rfl⟩
 rw[<- hPO]
 have hpu:=hOn.puts hlo hfit hnb
 obtain⟨rb,hrb⟩:∃rb,rb=r.rb:=⟨_,rfl⟩
 rw[<- hrb]at hc
 have hHold:=hR.holds hnb hDl hpl
 have HC:Hid (∀w',But Y w w'->w'.cell? ⟨ob,2,none⟩=some (.pointer (some ⟨rb,0,none⟩))/\w'.cell? ⟨rb,0,none⟩=some (.int .i64 (nb:Int))/\w'.cell? ⟨rb,1,none⟩=some (.int .i64 (fr:Int))/\w'.cell? ⟨rb,2,none⟩=some (.int .i64 (bl:Int))):=fun w' b=>by
  obtain⟨ov,hs⟩:=(hR.but b hnR).sto
  rw[<- hrb]at hs
  refine⟨(b.cell (p:=⟨ob,2,none⟩) hob hnO).trans hc,?_,?_,?_⟩
  ·have:=hs.cell 0;simpa using this
  ·have:=hs.cell 1;simpa using this
  ·have:=hs.cell 2;simpa using this
 obtain⟨DK,hDK⟩:∃DK,DK=r.Ds.take k:=⟨_,rfl⟩
 have HF:Hid (∀wr (i:Nat),Sk Y w wr j c p st nb (K+nb) fr bl d s->(∀y,y<nb->HomeB nb fr bl y->∀F,r.Fs[y]?=some F->strOfNums (contT home Ts Ts.length y)=holdsU (y:Int) F DK)->PO (.returned (.bool true)) wr):=fun wr i h1 h2=>by
  rw[hPO]
  refine⟨true,rfl,⟨fun _ y hy F hF=>?_,fun _=>rfl⟩,h1⟩
  rw[<- hDK]
  exact h2 y hy.1 hy F hF
 have HRD0:Hid (∀wr (i:Nat),i<nb->HomeB nb fr bl i->Sk Y w wr j c p st nb (K+i) fr bl d s->(∀y,y<i->HomeB nb fr bl y->∀F,r.Fs[y]?=some F->strOfNums (contT home Ts Ts.length y)=holdsU (y:Int) F DK)->∃FY,Calls Tryz.prog 27 #[.pointer (some ⟨st,0,none⟩),.int .i64 (i:Int)] wr fun e w2=>∃u S,e=.returned (.tuple #[u,.int .i64 0])/\w2.cell? ⟨ob,2,none⟩=some (.pointer (some ⟨rb,0,none⟩))/\(convert 40 9 u).run Tryz.prog w2.drew=.ok (.string S) w2.drew/\But Y w w2/\(Calls Tryz.prog 58 #[.pointer (some ⟨rb,0,none⟩),.int .i64 (i:Int),.int .i64 (k:Int)] w2.drew fun e w3=>e=.returned (.string (holdsU (i:Int) FY DK))/\w3=w2.drew)/\(S=holdsU (i:Int) FY DK->Sk Y w w2.drew j c p st nb (K+(i+1)) fr bl d s/\∀y,y<i+1->HomeB nb fr bl y->∀F,r.Fs[y]?=some F->strOfNums (contT home Ts Ts.length y)=holdsU (y:Int) F DK)/\(S≠holdsU (i:Int) FY DK->PO (.returned (.bool false)) w2.drew)):=fun wr i hi hH hSk hall=>by
  obtain⟨K1,Y1,hK1,hS1,hy1,g1,b1⟩:=hSk
  refine⟨r.Fs.getD i ByteArray.empty,?_⟩
  refine Calls.mono (hS1.read hfit (by omega) (by omega) (i:Int)) ?_
  rintro e w2 ⟨u,Y2,rfl,q1,q2,q3,q4,q5⟩
  have hh:=homeC_of hH
  have hpr:prC nb fr bl d s (i:Int)=(jread d s i,0):=by
   unfold prC
   rw[hOn.on,if_neg (by decide),if_neg (by rw[hh];decide)]
   rfl
  rw[hpr]at q2 ⊢
  have b12:But Y w w2:=b1.comp q5 (fun kk hkk e=>g1 kk hkk e)
  have hs1:=b1.size
  have g12:Gr Y Y2 w:=fun kk hkk e=>g1 kk hkk (q4 kk (by omega) e)
  have hst:=(q2.str (w2:=w2.drew) (Below.refl _ _).drew 0)
  have hR2:=hR.but b12 hnR
  have hF:r.Fs[i]?=some (r.Fs.getD i ByteArray.empty):=by
   rw[List.getD_eq_getElem?_getD,List.getElem?_eq_getElem (by rw[hR.fsl];exact hi)]
   rfl
  have hrd:=hOn.read hH
  refine⟨u,_,rfl,(HC.out w2 b12).1,hst,b12,?_,fun e=>?_,fun e=>?_⟩
  ·rw[hrb,hDK]
   exact (hR2.keep (w':=w2.drew) (fun _ _=>rfl)).holds hnb hDl hpl i hi k hk
  ·refine⟨⟨K1+1,Y2,by omega,q1.below (Below.refl _ _).drew,q3,g12,b12.trans (But.of_below (Below.refl _ _).drew)⟩,fun y hy hyH F hFy=>?_⟩
   by_cases e2:y=i
   ·subst e2
    rw[hF]at hFy
    cases hFy
    rw[<- hrd]
    exact e
   ·exact hall y (by omega) hyH F hFy
  ·rw[hPO]
   refine⟨false,rfl,⟨(fun q=>by cases q),fun q=>?_⟩,⟨K1+1,Y2,by omega,q1.below (Below.refl _ _).drew,q3,g12,b12.trans (But.of_below (Below.refl _ _).drew)⟩⟩
   have:=q i hH _ hF
   rw[<- hDK,<- hrd]at this
   exact absurd this e
 have HS0:Hid (Sk Y w w j c p st nb (K+0) fr bl d s):=⟨K,Y,by omega,hS,hyb,Gr.refl _ _,But.refl _ _⟩
 have HBut:Hid (∀wr K1,Sk Y w wr j c p st nb K1 fr bl d s->But Y w wr):=fun wr K1 ⟨_,_,_,_,_,_,b⟩=>b
 have HUp:Hid (∀wr K1 K2,K1<=K2->Sk Y w wr j c p st nb K1 fr bl d s->Sk Y w wr.drew j c p st nb K2 fr bl d s):=fun wr K1 K2 hk ⟨a,b,c1,c2,c3,c4,c5⟩=>⟨a,b,by omega,c2.below (Below.refl _ _).drew,c3,c4,c5.trans (But.of_below (Below.refl _ _).drew)⟩
 have HUp0:Hid (∀wr K1 K2,K1<=K2->Sk Y w wr j c p st nb K1 fr bl d s->Sk Y w wr j c p st nb K2 fr bl d s):=fun wr K1 K2 hk ⟨a,b,c1,c2⟩=>⟨a,b,by omega,c2⟩
 obtain⟨fb,hfbe⟩:∃fb:Int,fb=(fr:Int)+(bl:Int):=⟨_,rfl⟩
 have hwr:IntKind.i64.wrap ((fr:Int)+(bl:Int))=fb:=by rw[IntKind.wrap_i64];omega
 have HFB:=hid hfbe
 clear hS hyb hOn hR hc hnR hnO hHold hPO hDK hrb hpu hK hDl hpl hk hob hfbe
 go_enter Tryz.func22,Tryz.ntmps22
 go_wp2_with fail
 go_loopw [7] (fun iv wr=>∃(i:Nat),i<=nb/\iv=.int .i64 (i:Int)/\Sk Y w wr j c p st nb (K+i) fr bl d s/\∀y,y<i->HomeB nb fr bl y->∀F,r.Fs[y]?=some F->strOfNums (contT home Ts Ts.length y)=holdsU (y:Int) F DK) (fun iv _=>nb-(intOf iv).toNat)
 case atStart=>exact⟨0,Nat.zero_le _,rfl,HS0.out,fun y hy=>by omega⟩
 case round=>
  clear HS0
  rename World=>wo
  obtain⟨i,hiN,rfl,hSk,hall⟩:=hrel
  obtain⟨ck,c0,c1,c3⟩:=HC.out wo (HBut.out wo _ hSk)
  by_cases hi9:i<nb
  ·have hi':(i:Int)<(nb:Int):=by omega
   by_cases h1:fr<=i
   ·have h1':(fr:Int)<=(i:Int):=by omega
    by_cases h2:i<fr+bl
    ·have h2':(i:Int)<fb:=by have:=HFB.out;omega
     have FIN:=hid (And.intro (HUp.out wo _ (K+(i+1)) (by omega) hSk) (fun y (hy:y<i+1) (hyH:HomeB nb fr bl y)=>hall y (by
      have:=hyH.2
      have:y≠i:=fun e=>this ⟨by omega,by omega⟩
      omega) hyH))
     clear hSk hall HRD0 HF HUp HUp0 HBut
     go_wp2_with fail
     refine Gz (S:=fun w'=>w'.cell? ⟨ob,2,none⟩=some (.pointer (some ⟨rb,0,none⟩))/\w'.cell? ⟨rb,1,none⟩=some (.int .i64 (fr:Int))/\w'.cell? ⟨rb,2,none⟩=some (.int .i64 (bl:Int))) ⟨ck,c1,c3⟩ (fun hSS=>?_)
     refine Ti 0 rfl ?_
     refine Ti 1 rfl ?_
     refine Ti 2 rfl ?_
     refine Ti 3 rfl ?_
     try simp only[Act.put,zA,zB,zC]
     refine Ti 4 rfl ?_
     refine Ti 5 rfl ?_
     refine Ti 6 rfl ?_
     refine Ti 7 rfl ?_
     try simp only[Act.put,zA,zB,zC]
     refine Ti 8 rfl ?_
     refine Ti 9 rfl ?_
     refine Ti 10 rfl ?_
     refine Ti 11 rfl ?_
     try simp only[Act.put,zA,zB,zC]
     refine Ti 12 rfl ?_
     refine Ti 13 rfl ?_
     refine Ti 14 rfl ?_
     refine Ti 15 rfl ?_
     try simp only[Act.put,zA,zB,zC]
     refine Ti 16 rfl ?_
     refine Ti 17 rfl ?_
     refine Ti 18 rfl ?_
     refine Ti 19 rfl ?_
     try simp only[Act.put,zA,zB,zC]
     refine Ti 20 rfl ?_
     refine Ti 21 rfl ?_
     refine Ti 22 rfl ?_
     refine Ti 23 rfl ?_
     try simp only[Act.put,zA,zB,zC]
     refine Ti 24 rfl ?_
     refine Ti 25 rfl ?_
     refine Ti 26 rfl ?_
     refine Ti 27 rfl ?_
     try simp only[Act.put,zA,zB,zC]
     refine Dn ?_
     clear hSS
     go_wp2_with fail
     go_roundw
     case rel=>exact⟨i+1,by omega,by go_num,FIN.out⟩
     case measure=>simp[intOf];omega
    ·have h2':¬(i:Int)<fb:=by have:=HFB.out;omega
     obtain⟨FY,hRD⟩:=HRD0.out wo.drew i hi9 ⟨hi9,fun q=>by omega⟩ (HUp.out wo _ _ (Nat.le_refl _) hSk) hall
     have HRD:=hid hRD
     clear hSk hall HRD0 HF HUp HUp0 HBut hRD
     go_wp2_with fail
     refine Gz (S:=fun w'=>w'.cell? ⟨ob,2,none⟩=some (.pointer (some ⟨rb,0,none⟩))/\w'.cell? ⟨rb,1,none⟩=some (.int .i64 (fr:Int))/\w'.cell? ⟨rb,2,none⟩=some (.int .i64 (bl:Int))) ⟨ck,c1,c3⟩ (fun hSS=>?_)
     refine Ti 0 rfl ?_
     try simp only[Act.put,zA,zB,zC]
     refine Ti 1 rfl ?_
     refine Ti 2 rfl ?_
     refine Ti 3 rfl ?_
     refine Ti 4 rfl ?_
     try simp only[Act.put,zA,zB,zC]
     refine Ti 5 rfl ?_
     refine Ti 6 rfl ?_
     refine Ti 7 rfl ?_
     refine Ti 8 rfl ?_
     try simp only[Act.put,zA,zB,zC]
     refine Ti 9 rfl ?_
     refine Ti 10 rfl ?_
     refine Ti 11 rfl ?_
     refine Ti 12 rfl ?_
     try simp only[Act.put,zA,zB,zC]
     refine Ti 13 rfl ?_
     refine Ti 14 rfl ?_
     refine Ti 15 rfl ?_
     refine Ti 16 rfl ?_
     try simp only[Act.put,zA,zB,zC]
     refine Ti 17 rfl ?_
     refine Ti 18 rfl ?_
     refine Ti 19 rfl ?_
     refine Ti 20 rfl ?_
     try simp only[Act.put,zA,zB,zC]
     refine Ti 21 rfl ?_
     refine Ti 22 rfl ?_
     refine Ti 23 rfl ?_
     refine Ti 24 rfl ?_
     try simp only[Act.put,zA,zB,zC]
     refine Ti 25 rfl ?_
     refine Ti 26 rfl ?_
     refine Ti 27 rfl ?_
     try simp only[Act.put,zA,zB,zC]
     refine Dn ?_
     clear hSS
     go_wp2_with fail
     refine Calls.mono HRD.out ?_
     rintro e w2 ⟨u,S,rfl,c2,hcv,hh⟩
     obtain⟨cb,HH⟩:=hh
     have HH:=hid HH
     clear HRD c0 c1 c3 ck
     go_wp2_with fail
     refine Gz (S:=fun w'=>w'.cell? ⟨ob,2,none⟩=some (.pointer (some ⟨rb,0,none⟩))/\(convert 40 9 u).run Tryz.prog w'=.ok (.string S) w') ⟨c2,hcv⟩ (fun hSS=>?_)
     refine Ti 0 rfl ?_
     refine Ti 1 rfl ?_
     try simp only[Act.put,zA,zB,zC]
     refine Ti 2 rfl ?_
     refine Ti 3 rfl ?_
     refine Ti 4 rfl ?_
     refine Ti 5 rfl ?_
     try simp only[Act.put,zA,zB,zC]
     refine Ti 6 rfl ?_
     refine Ti 7 rfl ?_
     refine Ti 8 rfl ?_
     refine Ti 9 rfl ?_
     try simp only[Act.put,zA,zB,zC]
     refine Ti 10 rfl ?_
     try simp only[Act.put,zA,zB,zC]
     refine Ri 11 rfl (fun K9 hK9=>?_)
     go_simp
     go_at_call 58
     refine Calls.mono HH.out.1 ?_
     rintro e w3 ⟨rfl,hw3⟩
     rw[hw3]
     clear hw3
     refine hK9.out _ _ ⟨c2,hcv⟩ (fun hSS=>?_)
     try simp only[Act.put,zA,zB,zC]
     refine Ti 12 rfl ?_
     refine Ti 13 rfl ?_
     try simp only[Act.put,zA,zB,zC]
     refine Dn ?_
     clear hSS
     obtain⟨_,h1,h2⟩:=HH.out
     generalize hbb:(!(S.toList == (holdsU (i:Int) FY DK).toList))=bb
     by_cases hSe:S=holdsU (i:Int) FY DK
     ·have hbv:bb=false:=by rw[<- hbb,hSe];simp
      subst hbv
      clear hbb
      have FIN:=hid (h1 hSe)
      clear h1 h2 HH c2 hcv hSe
      go_wp2_with fail
      go_roundw
      case rel=>exact⟨i+1,by omega,by go_num,FIN.out⟩
      case measure=>simp[intOf];omega
     ·have hbv:bb=true:=by
       rw[<- hbb]
       simpa using fun e=>hSe (btoList_inj e)
      subst hbv
      clear hbb
      have FIN:=hid (h2 hSe)
      clear h1 h2 HH c2 hcv hSe
      go_wp2
      exact FIN.out
   ·have h1':¬(fr:Int)<=(i:Int):=by omega
    obtain⟨FY,hRD⟩:=HRD0.out wo.drew i hi9 ⟨hi9,fun q=>by omega⟩ (HUp.out wo _ _ (Nat.le_refl _) hSk) hall
    have HRD:=hid hRD
    clear hSk hall HRD0 HF HUp HUp0 HBut hRD
    go_wp2_with fail
    refine Gz (S:=fun w'=>w'.cell? ⟨ob,2,none⟩=some (.pointer (some ⟨rb,0,none⟩))/\w'.cell? ⟨rb,1,none⟩=some (.int .i64 (fr:Int))/\w'.cell? ⟨rb,2,none⟩=some (.int .i64 (bl:Int))) ⟨ck,c1,c3⟩ (fun hSS=>?_)
    refine Ti 0 rfl ?_
    refine Ti 1 rfl ?_
    refine Ti 2 rfl ?_
    try simp only[Act.put,zA,zB,zC]
    refine Ti 3 rfl ?_
    refine Ti 4 rfl ?_
    refine Ti 5 rfl ?_
    refine Ti 6 rfl ?_
    try simp only[Act.put,zA,zB,zC]
    refine Ti 7 rfl ?_
    refine Ti 8 rfl ?_
    refine Ti 9 rfl ?_
    refine Si 10 rfl ?_
    try simp only[Act.put,zA,zB,zC]
    refine Si 11 rfl ?_
    refine Si 12 rfl ?_
    refine Si 13 rfl ?_
    refine Si 14 rfl ?_
    try simp only[Act.put,zA,zB,zC]
    refine Si 15 rfl ?_
    refine Si 16 rfl ?_
    refine Si 17 rfl ?_
    refine Si 18 rfl ?_
    try simp only[Act.put,zA,zB,zC]
    refine Si 19 rfl ?_
    refine Si 20 rfl ?_
    refine Si 21 rfl ?_
    refine Si 22 rfl ?_
    try simp only[Act.put,zA,zB,zC]
    refine Si 23 rfl ?_
    refine Si 24 rfl ?_
    refine Si 25 rfl ?_
    refine Si 26 rfl ?_
    try simp only[Act.put,zA,zB,zC]
    refine Ti 27 rfl ?_
    try simp only[Act.put,zA,zB,zC]
    refine Dn ?_
    clear hSS
    go_wp2_with fail
    refine Calls.mono HRD.out ?_
    rintro e w2 ⟨u,S,rfl,c2,hcv,hh⟩
    obtain⟨cb,HH⟩:=hh
    have HH:=hid HH
    clear HRD c0 c1 c3 ck
    go_wp2_with fail
    refine Gz (S:=fun w'=>w'.cell? ⟨ob,2,none⟩=some (.pointer (some ⟨rb,0,none⟩))/\(convert 40 9 u).run Tryz.prog w'=.ok (.string S) w') ⟨c2,hcv⟩ (fun hSS=>?_)
    refine Ti 0 rfl ?_
    refine Ti 1 rfl ?_
    refine Ti 2 rfl ?_
    refine Ti 3 rfl ?_
    try simp only[Act.put,zA,zB,zC]
    refine Ti 4 rfl ?_
    refine Ti 5 rfl ?_
    refine Ti 6 rfl ?_
    refine Ti 7 rfl ?_
    try simp only[Act.put,zA,zB,zC]
    refine Ti 8 rfl ?_
    refine Ti 9 rfl ?_
    refine Ti 10 rfl ?_
    try simp only[Act.put,zA,zB,zC]
    refine Ri 11 rfl (fun K9 hK9=>?_)
    go_simp
    go_at_call 58
    refine Calls.mono HH.out.1 ?_
    rintro e w3 ⟨rfl,hw3⟩
    rw[hw3]
    clear hw3
    refine hK9.out _ _ ⟨c2,hcv⟩ (fun hSS=>?_)
    try simp only[Act.put,zA,zB,zC]
    refine Ti 12 rfl ?_
    refine Ti 13 rfl ?_
    try simp only[Act.put,zA,zB,zC]
    refine Dn ?_
    clear hSS
    obtain⟨_,h1,h2⟩:=HH.out
    generalize hbb:(!(S.toList == (holdsU (i:Int) FY DK).toList))=bb
    by_cases hSe:S=holdsU (i:Int) FY DK
    ·have hbv:bb=false:=by rw[<- hbb,hSe];simp
     subst hbv
     clear hbb
     have FIN:=hid (h1 hSe)
     clear h1 h2 HH c2 hcv hSe
     go_wp2_with fail
     go_roundw
     case rel=>exact⟨i+1,by omega,by go_num,FIN.out⟩
     case measure=>simp[intOf];omega
    ·have hbv:bb=true:=by
      rw[<- hbb]
      simpa using fun e=>hSe (btoList_inj e)
     subst hbv
     clear hbb
     have FIN:=hid (h2 hSe)
     clear h1 h2 HH c2 hcv hSe
     go_wp2
     exact FIN.out
  ·have hie:i=nb:=by omega
   have hi':¬(i:Int)<(nb:Int):=by omega
   have FIN:=hid (HF.out wo i (HUp0.out wo _ (K+nb) (by omega) hSk) (fun y hy hyH=>hall y (by omega) hyH))
   clear hSk hall HRD0 HF HUp HUp0 HBut hie
   go_wp2
   exact FIN.out
end Go.Proofs.YthfojpcibnfmgaaGreat
