import Derived.Test.YthfojpcibnfmgaaGreatG46
set_option maxRecDepth 100000
set_option maxHeartbeats 16000000
namespace Go.Proofs.YthfojpcibnfmgaaGreat
open Go.RowKit Go.Deep
theorem jask0 (w:World):Calls Tryz.prog 94 #[.pointer none] w fun e w'=> e = .returned (.int .i64 1) /\ Below w.heap.size w w':=by
 have B:Hid (Below w.heap.size w w):=Below.refl _ _
 go_enter Tryz.func94,Tryz.ntmps94
 go_wp2
 go_ret
 exact ⟨rfl,B.out⟩
theorem sask_nil (w:World):Calls Tryz.prog 25 #[.pointer none] w fun e w'=> e = .returned (.int .i64 1) /\ Below w.heap.size w w':=by
 have B:Hid (Below w.heap.size w w):=Below.refl _ _
 go_enter Tryz.func25,Tryz.ntmps25
 go_wp2
 go_ret
 exact ⟨rfl,B.out⟩
theorem sowns0 (w:World):Calls Tryz.prog 31 #[.pointer none,.pointer none] w fun e w'=> e = .returned (.int .i64 1) /\ Below w.heap.size w w':=by
 have B:Hid (Below w.heap.size w w):=Below.refl _ _
 go_enter Tryz.func31,Tryz.ntmps31
 go_wp2
 go_ret
 exact ⟨rfl,B.out⟩
theorem seq_nil (w:World):Calls Tryz.prog 93 #[.pointer none] w fun e w'=> e = .returned (.tuple #[.int .i64 0,.int .i64 1]) /\ Below w.heap.size w w':=by
 have H:=hid (jask0 w)
 go_enter Tryz.func93,Tryz.ntmps93
 go_wp2_with fail
 refine Calls.mono H.out ?_
 rintro e w1 ⟨rfl,b1⟩
 have B1:=hid b1
 clear b1 H
 go_wp2
 go_ret2
 exact ⟨rfl,B1.out⟩
theorem power_nil (w:World) (b:Nat) (hc:w.cell? ⟨b,0,none⟩ = some (.pointer none)):Calls Tryz.prog 59 #[.pointer (some ⟨b,0,none⟩)] w fun e w'=> e = .returned (.int .i64 1) /\ Below w.heap.size w w':=by
 have H:=hid (seq_nil w)
 go_enter Tryz.func59,Tryz.ntmps59
 go_wp2_with fail
 refine Calls.mono H.out ?_
 rintro e w1 ⟨rfl,b1⟩
 have B1:=hid b1
 clear b1 H hc
 go_wp2
 go_ret
 exact ⟨rfl,B1.out⟩
theorem sask_none (w:World) (b:Nat) (hc:w.cell? ⟨b,0,none⟩ = some (.pointer none)):Calls Tryz.prog 25 #[.pointer (some ⟨b,0,none⟩)] w fun e w'=> e = .returned (.int .i64 1) /\ Below w.heap.size w w':=by
 have H:=hid (power_nil w b hc)
 clear hc
 go_enter Tryz.func25,Tryz.ntmps25
 go_wp2_with fail
 refine Calls.mono H.out ?_
 rintro e w1 ⟨rfl,b1⟩
 have B1:=hid b1
 clear b1 H
 go_wp2
 go_ret
 exact ⟨rfl,B1.out⟩
theorem topen_nil (w:World):Calls Tryz.prog 10 #[.pointer none] w fun e w'=> e = .returned (.tuple #[.pointer none,.int .i64 1]) /\ Below w.heap.size w w':=by
 obtain ⟨PO,hPO⟩:∃ PO:Ending -> World -> Prop,PO = fun e w'=> e = .returned (.tuple #[.pointer none,.int .i64 1]) /\ Below w.heap.size w w':=⟨_,rfl⟩
 rw [<- hPO]
 obtain ⟨w1,hw1⟩:∃ w1,w1 = w.alloc (.cells #[.pointer none,.iface 76 (.pointer none),.pointer none] 83):=⟨_,rfl⟩
 have b1:Below w.heap.size w w1:=by rw [hw1]; exact (Below.refl _ _).alloc (Nat.le_refl _) _
 have HA:Hid (Calls Tryz.prog 25 #[.pointer (some ⟨w.heap.size,0,none⟩)] w1 fun e w'=> e = .returned (.int .i64 1) /\ PO (.returned (.tuple #[.pointer none,.int .i64 1])) w'):=by
  refine Calls.mono (sask_none w1 w.heap.size (by rw [hw1]; exact cell_new rfl 0 _ rfl)) ?_
  rintro e w' ⟨rfl,b2⟩
  refine ⟨rfl,?_⟩
  rw [hPO]
  exact ⟨rfl,b1.trans (b2.mono b1.size)⟩
 have HW:Hid (w1 = w.alloc (.cells #[.pointer none,.iface 76 (.pointer none),.pointer none] 83)):=hw1
 clear hPO b1 hw1
 go_enter Tryz.func10,Tryz.ntmps10
 go_wp2_with fail
 rw [<- HW.out]
 refine Calls.mono HA.out ?_
 rintro e w2 ⟨rfl,q⟩
 have FIN:=hid q
 clear q HA HW
 go_wp2
 exact FIN.out
theorem nils_any (w:World):Calls Tryz.prog 11 #[] w fun e w'=> e = .returned (.bool true) /\ Below w.heap.size w w':=by
 obtain ⟨PO,hPO⟩:∃ PO:Ending -> World -> Prop,PO = fun e w'=> e = .returned (.bool true) /\ Below w.heap.size w w':=⟨_,rfl⟩
 rw [<- hPO]
 have HFin:Hid (∀ w',Below w.heap.size w w' -> PO (.returned (.bool true)) w'):=fun w' hb=> by rw [hPO]; exact ⟨rfl,hb⟩
 have B0:Hid (Below w.heap.size w w):=Below.refl _ _
 clear hPO
 go_enter Tryz.func11,Tryz.ntmps11
 go_wp2_with fail
 refine Calls.mono (sbegin_no (sask_nil w) rfl) ?_
 rintro e w1 ⟨rfl,b⟩
 have B1:Hid (Below w.heap.size w w1):=B0.out.trans (b.mono B0.out.size)
 clear b B0
 go_wp2_with fail
 refine Calls.mono (sread_no (sask_nil w1) rfl 0) ?_
 rintro e w2 ⟨rfl,b⟩
 have B2:Hid (Below w.heap.size w w2):=B1.out.trans (b.mono B1.out.size)
 clear b B1
 go_wp2_with fail
 refine Calls.mono (tread_no (task_nil w2) rfl 0) ?_
 rintro e w3 ⟨rfl,b⟩
 have B3:Hid (Below w.heap.size w w3):=B2.out.trans (b.mono B2.out.size)
 clear b B2
 go_wp2_with fail
 refine Calls.mono (tmark_no (task_nil w3) rfl) ?_
 rintro e w4 ⟨rfl,b⟩
 have B4:Hid (Below w.heap.size w w4):=B3.out.trans (b.mono B3.out.size)
 clear b B3
 go_wp2_with fail
 refine Calls.mono (sflush_no (sask_nil w4) rfl) ?_
 rintro e w5 ⟨rfl,b⟩
 have B5:Hid (Below w.heap.size w w5):=B4.out.trans (b.mono B4.out.size)
 clear b B4
 go_wp2_with fail
 refine Calls.mono (sowns0 w5) ?_
 rintro e w6 ⟨rfl,b⟩
 have B6:Hid (Below w.heap.size w w6):=B5.out.trans (b.mono B5.out.size)
 clear b B5
 go_wp2_with fail
 refine Calls.mono (sowns0 w6) ?_
 rintro e w7 ⟨rfl,b⟩
 have B7:Hid (Below w.heap.size w w7):=B6.out.trans (b.mono B6.out.size)
 clear b B6
 go_wp2_with fail
 refine Calls.mono (twrite_no (task_nil w7) rfl 0 (.slice none 0 0)) ?_
 rintro e w8 ⟨rfl,b⟩
 have B8:Hid (Below w.heap.size w w8):=B7.out.trans (b.mono B7.out.size)
 clear b B7
 go_wp2_with fail
 refine Calls.mono (tback_no (task_nil w8) rfl 0) ?_
 rintro e w9 ⟨rfl,b⟩
 have B9:Hid (Below w.heap.size w w9):=B8.out.trans (b.mono B8.out.size)
 clear b B8
 go_wp2_with fail
 refine Calls.mono (tcommit_no (task_nil w9) rfl) ?_
 rintro e w10 ⟨rfl,b⟩
 have B10:Hid (Below w.heap.size w w10):=B9.out.trans (b.mono B9.out.size)
 clear b B9
 go_wp2_with fail
 refine Calls.mono (tabort_no (task_nil w10) rfl) ?_
 rintro e w11 ⟨rfl,b⟩
 have B11:Hid (Below w.heap.size w w11):=B10.out.trans (b.mono B10.out.size)
 clear b B10
 go_wp2_with fail
 obtain ⟨w9,hw9⟩:∃ w9,w9 = w11.alloc (.cells #[.int .i64 1,.int .i64 1,.int .i64 1,.int .i64 1,.int .i64 1,.int .i64 1,.int .i64 1] 28):=⟨_,rfl⟩
 have B9:Hid (Below w.heap.size w w9):=by rw [hw9]; exact B11.out.alloc B11.out.size _
 have HC:Hid (∀ j,j < 7 -> w9.cell? ⟨w11.heap.size,j,none⟩ = some (.int .i64 1)):=fun j hj=> by
  rw [hw9]
  refine cell_new rfl j _ ?_
  obtain rfl | rfl | rfl | rfl | rfl | rfl | rfl:j = 0 \/ j = 1 \/ j = 2 \/ j = 3 \/ j = 4 \/ j = 5 \/ j = 6:=by omega
  all_goals rfl
 rw [<- hw9]
 clear hw9 B11
 go_loopw [12] (fun iv wr=> ∃ (j:Nat),j <= 7 /\ iv = .int .i64 (j:Int) /\ wr = w9) (fun iv _=> 7 - (intOf iv).toNat)
 case atStart=> exact ⟨0,Nat.zero_le _,rfl,rfl⟩
 case round=>
  obtain ⟨j,hj7,rfl,rfl⟩:=hrel
  by_cases hj:j < 7
  ·have hj':(j:Int) < 7:=by omega
   have kc:=HC.out j hj
   clear HC
   go_wp2_with fail
   go_roundw
   case rel=> exact ⟨j + 1,by omega,by go_num,by first | rfl | trivial⟩
   case measure=> simp [intOf]; omega
  ·have hje:j = 7:=by omega
   subst hje
   have FIN:=hid (HFin.out _ B9.out)
   clear HFin B9 HC
   go_wp2
   exact FIN.out
theorem all_law (a1 b1 c1 a2 b2 c2:Int) (sa:Option Addr) (sc:Nat) (As:List Aw) (w:World) (hS:Scr (fun k=> k < w.heap.size) w sa As) (hN:As.length <= 16777216) :
  Calls Tryz.prog 6 #[.agg #[.int .i64 a1,.int .i64 b1,.int .i64 c1],.agg #[.int .i64 a2,.int .i64 b2,.int .i64 c2],.slice sa As.length sc] w fun e w'=> e = .returned (.bool true) /\ Below w.heap.size w w':=by
 obtain ⟨PO,hPO⟩:∃ PO:Ending -> World -> Prop,PO = fun e w'=> e = .returned (.bool true) /\ Below w.heap.size w w':=⟨_,rfl⟩
 rw [<- hPO]
 obtain ⟨pk,hpk⟩:∃ pk,pk = w.heap.size:=⟨_,rfl⟩
 obtain ⟨wP,hwP⟩:∃ wP,wP = w.alloc (.cells #[.int .i64 a1,.int .i64 b1,.int .i64 c1] 23):=⟨_,rfl⟩
 have zP:wP.heap.size = w.heap.size + 1:=by rw [hwP]; simp
 obtain ⟨w0,hw0⟩:∃ w0,w0 = wP.alloc (.cells #[.int .i64 a2,.int .i64 b2,.int .i64 c2] 23):=⟨_,rfl⟩
 have bP:Below w.heap.size w wP:=by rw [hwP]; exact (Below.refl _ _).alloc (Nat.le_refl _) _
 have b0P:Below wP.heap.size wP w0:=by rw [hw0]; exact (Below.refl _ _).alloc (Nat.le_refl _) _
 have b0:Below w.heap.size w w0:=bP.trans (b0P.mono (by omega))
 have z0:w0.heap.size = w.heap.size + 2:=by rw [hw0]; simp [zP]
 have cA:∀ t v,#[Value.int .i64 a1,.int .i64 b1,.int .i64 c1][t]? = some v -> w0.cell? ⟨pk,t,none⟩ = some v:=fun t v hv=> (b0P.cell (p:=⟨pk,t,none⟩) (by show pk < _; omega)).trans (by rw [hwP,hpk]; exact cell_new rfl t _ hv)
 have cB:∀ t v,#[Value.int .i64 a2,.int .i64 b2,.int .i64 c2][t]? = some v -> w0.cell? ⟨pk + 1,t,none⟩ = some v:=fun t v hv=> by rw [hw0,hpk,<- zP]; exact cell_new rfl t _ hv
 have HC:Hid (∀ w',Below w0.heap.size w0 w' -> (w'.cell? ⟨pk,0,none⟩ = some (.int .i64 a1) /\ w'.cell? ⟨pk,1,none⟩ = some (.int .i64 b1) /\ w'.cell? ⟨pk,2,none⟩ = some (.int .i64 c1)) /\ (w'.cell? ⟨pk + 1,0,none⟩ = some (.int .i64 a2) /\ w'.cell? ⟨pk + 1,1,none⟩ = some (.int .i64 b2) /\ w'.cell? ⟨pk + 1,2,none⟩ = some (.int .i64 c2))):=fun w' hb=> by
  have K1:∀ t,w'.cell? ⟨pk,t,none⟩ = w0.cell? ⟨pk,t,none⟩:=fun t=> hb.cell (p:=⟨pk,t,none⟩) (by show pk < _; omega)
  have K2:∀ t,w'.cell? ⟨pk + 1,t,none⟩ = w0.cell? ⟨pk + 1,t,none⟩:=fun t=> hb.cell (p:=⟨pk + 1,t,none⟩) (by show pk + 1 < _; omega)
  exact ⟨⟨(K1 0).trans (cA 0 _ rfl),(K1 1).trans (cA 1 _ rfl),(K1 2).trans (cA 2 _ rfl)⟩,(K2 0).trans (cB 0 _ rfl),(K2 1).trans (cB 1 _ rfl),(K2 2).trans (cB 2 _ rfl)⟩
 have HF:Hid (∀ w1,Below w0.heap.size w0 w1 -> Calls Tryz.prog 9 #[.agg #[.int .i64 a1,.int .i64 b1,.int .i64 c1],.agg #[.int .i64 a2,.int .i64 b2,.int .i64 c2],.slice sa As.length sc,.int .i64 1,.int .i64 12] w1 fun e w'=> e = .returned (.bool true) /\ PO (.returned (.bool true)) w'):=fun w1 hb=> by
  have hb1:Below w.heap.size w w1:=b0.trans (hb.mono (by omega))
  have:=hb1.size
  refine Calls.mono (plays_any a1 b1 c1 a2 b2 c2 1 12 sa sc As w1 (Scr.wide (Scr.but hS (But.of_below hb1)) (fun k hk=> by show k < _; have:k < w.heap.size:=hk; omega)) hN) ?_
  rintro e w' ⟨rfl,hb'⟩
  rw [hPO]
  exact ⟨rfl,rfl,hb1.trans (hb'.mono (by omega))⟩
 have HW0:Hid (w0 = (w.alloc (.cells #[.int .i64 a1,.int .i64 b1,.int .i64 c1] 23)).alloc (.cells #[.int .i64 a2,.int .i64 b2,.int .i64 c2] 23)):=hw0.trans (by rw [hwP])
 have HPK:=hid hpk
 clear hS hN hw0 hwP b0 b0P bP z0 zP hPO cA cB hpk
 go_enter Tryz.func6,Tryz.ntmps6
 go_wp2_with fail
 rw [<- HW0.out,<- HPK.out]
 refine Calls.mono (topen_nil w0) ?_
 rintro e w3 ⟨rfl,b3⟩
 have B3:=hid b3
 clear b3 HW0 HPK
 go_wp2_with fail
 refine Calls.mono (nils_any w3) ?_
 rintro e w4 ⟨rfl,b4⟩
 have B4:Hid (Below w0.heap.size w0 w4):=B3.out.trans (b4.mono B3.out.size)
 obtain ⟨⟨d0,d1,d2⟩,e0,e1,e2⟩:=HC.out w4 B4.out
 clear b4 B3 HC
 go_wp2_with fail
 refine Calls.mono (HF.out w4 B4.out) ?_
 rintro e w5 ⟨rfl,h5⟩
 have H5:=hid h5
 clear h5 HF B4 d0 d1 d2 e0 e1 e2
 go_wp2
 exact H5.out
end Go.Proofs.YthfojpcibnfmgaaGreat
