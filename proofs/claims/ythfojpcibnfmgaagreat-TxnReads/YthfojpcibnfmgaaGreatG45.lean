import Derived.Test.YthfojpcibnfmgaaGreatG44
import Derived.Deep.DeepCutAuto
set_option maxRecDepth 100000
set_option maxHeartbeats 16000000
namespace Go.Proofs.YthfojpcibnfmgaaGreat
open Go.RowKit Go.Deep
structure AwIn (Q:Nat -> Prop) (w:World) (a:Aw):Prop where
 lo:-9223372036854775808 <= a.at_
 hi:a.at_ <= 9223372036854775807
 rn:a.rn <= 16777216
 raw:∃ zs,RdN (fun k=> ¬ Q k) w a.ra a.rn zs
def RdA (Q:Nat -> Prop) (w:World) (a:Option Addr) (As:List Aw):Prop :=
 As = [] \/ ∃ b off,a = some ⟨b,off,none⟩ /\ Q b /\ b < w.heap.size /\ ∀ t q,As[t]? = some q -> w.cell? ⟨b,off + t * 6,none⟩ = some (.int .i64 q.wh) /\ w.cell? ⟨b,off + t * 6 + 1,none⟩ = some (.int .i64 q.kd) /\ w.cell? ⟨b,off + t * 6 + 2,none⟩ = some (.int .i64 q.tx) /\ w.cell? ⟨b,off + t * 6 + 3,none⟩ = some (.int .i64 q.at_) /\ w.cell? ⟨b,off + t * 6 + 4,none⟩ = some (.int .i64 q.fl) /\ w.cell? ⟨b,off + t * 6 + 5,none⟩ = some (.slice q.ra q.rn q.rc)
def Scr (Q:Nat -> Prop) (w:World) (a:Option Addr) (As:List Aw):Prop:=RdA Q w a As /\ ∀ q ∈ As,AwIn Q w q
theorem Scr.but {Q:Nat -> Prop} {w w':World} {a:Option Addr} {As:List Aw} (h:Scr Q w a As) (hb:But (fun k=> ¬ Q k) w w'):Scr Q w' a As:=by
 refine ⟨?_,fun q hq=> ?_⟩
 ·rcases h.1 with e | ⟨b,o,e,hq,l,q⟩
  ·exact .inl e
  ·have K:∀ i,w'.cell? ⟨b,i,none⟩ = w.cell? ⟨b,i,none⟩:=fun i=> hb.cell (p:=⟨b,i,none⟩) l (fun r=> r hq)
   refine .inr ⟨b,o,e,hq,Nat.lt_of_lt_of_le l hb.size,fun t d hd=> ?_⟩
   obtain ⟨q0,q1,q2,q3,q4,q5⟩:=q t d hd
   exact ⟨(K _).trans q0,(K _).trans q1,(K _).trans q2,(K _).trans q3,(K _).trans q4,(K _).trans q5⟩
 ·obtain ⟨r1,r2,r3,zs,r4⟩:=h.2 q hq
  exact ⟨r1,r2,r3,zs,r4.but hb⟩
theorem Scr.wide {Q Q':Nat -> Prop} {w:World} {a:Option Addr} {As:List Aw} (h:Scr Q w a As) (hq:∀ k,Q k -> Q' k):Scr Q' w a As:=by
 refine ⟨h.1.imp id (fun ⟨b,o,e,hb,l,q⟩=> ⟨b,o,e,hq b hb,l,q⟩),fun q hm=> ?_⟩
 obtain ⟨r1,r2,r3,zs,r4⟩:=h.2 q hm
 exact ⟨r1,r2,r3,zs,r4.mono (fun k _ e1 e2=> e1 (hq k e2))⟩
theorem Scr.at {Q:Nat -> Prop} {w:World} {a:Option Addr} {As:List Aw} (h:Scr Q w a As) {i:Nat} {q:Aw} (hq:As[i]? = some q):∃ b off,a = some ⟨b,off,none⟩ /\ (w.cell? ⟨b,off + i * 6,none⟩ = some (.int .i64 q.wh) /\ w.cell? ⟨b,off + i * 6 + 1,none⟩ = some (.int .i64 q.kd) /\ w.cell? ⟨b,off + i * 6 + 2,none⟩ = some (.int .i64 q.tx) /\ w.cell? ⟨b,off + i * 6 + 3,none⟩ = some (.int .i64 q.at_) /\ w.cell? ⟨b,off + i * 6 + 4,none⟩ = some (.int .i64 q.fl) /\ w.cell? ⟨b,off + i * 6 + 5,none⟩ = some (.slice q.ra q.rn q.rc)):=by
 rcases h.1 with e | ⟨b,off,e,_,_,hc⟩
 ·rw [e] at hq; cases hq
 ·exact ⟨b,off,e,hc i q hq⟩
def Pr (Q:Nat -> Prop) (w0:World) (x y Mx My:Nat) (w:World):Prop:=∃ Bx By,Dsk Bx w x Mx /\ Dsk By w y My /\ (∀ k,Bx k -> ¬ By k) /\ (∀ k,Q k -> ¬ Bx k) /\ (∀ k,Q k -> ¬ By k) /\ (∀ k,Q k -> k < w0.heap.size) /\ But (fun k=> ¬ Q k) w0 w
theorem Pr.symm {Q:Nat -> Prop} {w0 w:World} {x y Mx My:Nat} (h:Pr Q w0 x y Mx My w):Pr Q w0 y x My Mx w:=by
 obtain ⟨Bx,By,h1,h2,h3,h4,h5,h6,h7⟩:=h
 exact ⟨By,Bx,h2,h1,fun k e1 e2=> h3 k e2 e1,h5,h4,h6,h7⟩
theorem Pr.mono {Q:Nat -> Prop} {w0 w:World} {x y Mx My Mx' My':Nat} (h:Pr Q w0 x y Mx My w) (hx:Mx <= Mx') (hy:My <= My'):Pr Q w0 x y Mx' My' w:=by
 obtain ⟨Bx,By,h1,h2,h3⟩:=h
 exact ⟨Bx,By,h1.mono hx,h2.mono hy,h3⟩
theorem Pr.base {Q:Nat -> Prop} {w0 w:World} {x y Mx My:Nat} (h:Pr Q w0 x y Mx My w):But (fun k=> ¬ Q k) w0 w:=by
 obtain ⟨Bx,By,_,_,_,_,_,_,h7⟩:=h
 exact h7
theorem Pr.act {Q:Nat -> Prop} {w0 w:World} {x y Mx My:Nat} (h:Pr Q w0 x y Mx My w) (hx:Mx <= 268435455) (hy:My <= 268435455) (q:Aw) (hq:AwIn Q w q):Calls Tryz.prog 13 #[.pointer (some ⟨x,0,none⟩),q.val,.pointer (some ⟨y,0,none⟩)] w fun e w'=> ∃ u,e = .returned (.tuple #[.bool true,u]) /\ Pr Q w0 x y (Mx + 1) My w':=by
 obtain ⟨Bx,By,h1,h2,h3,h4,h5,h6,h7⟩:=h
 obtain ⟨r1,r2,r3,zs,r4⟩:=hq
 refine Calls.mono (h1.act hx h2 hy h3 q ⟨r1,r2,r3,zs,r4.mono (fun k _ e1 e2=> h4 k e2 e1)⟩) ?_
 rintro e w' ⟨u,rfl,B',zs',q1,q2,q3,_⟩
 refine ⟨u,rfl,B',By,q1,h2.keep q3 (fun k _ e=> h3 k e),fun k e1 e2=> h3 k (q2 k (h2.lt e2) e1) e2,fun k e1 e2=> h4 k e1 (q2 k (Nat.lt_of_lt_of_le (h6 k e1) h7.size) e2),h5,h6,h7.comp q3 (fun k _ e1 e2=> h4 k e2 e1)⟩
theorem Pr.both {Q:Nat -> Prop} {w0 w:World} {x y i:Nat} (h:Pr Q w0 x y i i w) (hi:i <= 268435455) (q:Aw) (hq:AwIn Q w q):(Calls Tryz.prog 13 #[.pointer (some ⟨x,0,none⟩),q.val,.pointer (some ⟨y,0,none⟩)] w fun e w'=> ∃ u,e = .returned (.tuple #[.bool true,u]) /\ Pr Q w0 x y (i + 1) (i + 1) w') /\ Calls Tryz.prog 13 #[.pointer (some ⟨y,0,none⟩),q.val,.pointer (some ⟨x,0,none⟩)] w fun e w'=> ∃ u,e = .returned (.tuple #[.bool true,u]) /\ Pr Q w0 x y (i + 1) (i + 1) w':=by
 refine ⟨Calls.mono (h.act hi hi q hq) ?_,Calls.mono (h.symm.act hi hi q hq) ?_⟩
 ·rintro e w' ⟨u,rfl,q1⟩
  exact ⟨u,rfl,q1.mono (Nat.le_refl _) (by omega)⟩
 ·rintro e w' ⟨u,rfl,q1⟩
  exact ⟨u,rfl,q1.symm.mono (by omega) (Nat.le_refl _)⟩
open Go.RowKit Go.Deep
theorem plays_of (a1 b1 c1 a2 b2 c2 lo hi:Int) (sa:Option Addr) (sc:Nat) (As:List Aw) (w:World) (hS:Scr (fun k=> k < w.heap.size) w sa As) (hN:As.length <= 16777216) (HL:∀ (wl:World) (Q:Nat -> Prop) (x y:Nat) (w0:World),Pr Q w0 x y As.length As.length wl -> Scr Q wl sa As -> Calls Tryz.prog 24 #[.pointer (some ⟨x,0,none⟩),.pointer (some ⟨y,0,none⟩),.agg #[.int .i64 a1,.int .i64 b1,.int .i64 c1],.slice sa As.length sc,.int .i64 lo,.int .i64 hi] wl fun e w'=> e = .returned (.bool true) /\ But (fun k=> ¬ Q k) w0 w') :
  Calls Tryz.prog 9 #[.agg #[.int .i64 a1,.int .i64 b1,.int .i64 c1],.agg #[.int .i64 a2,.int .i64 b2,.int .i64 c2],.slice sa As.length sc,.int .i64 lo,.int .i64 hi] w fun e w'=> e = .returned (.bool true) /\ Below w.heap.size w w':=by
 obtain ⟨PO,hPO⟩:∃ PO:Ending -> World -> Prop,PO = fun e w'=> e = .returned (.bool true) /\ Below w.heap.size w w':=⟨_,rfl⟩
 rw [<- hPO]
 obtain ⟨N,hNe⟩:∃ N,N = As.length:=⟨_,rfl⟩
 rw [<- hNe] at HL ⊢
 have hN3:N <= 16777216:=by omega
 obtain ⟨pk,hpk⟩:∃ pk,pk = w.heap.size:=⟨_,rfl⟩
 obtain ⟨wP,hwP⟩:∃ wP,wP = w.alloc (.cells #[.int .i64 a1,.int .i64 b1,.int .i64 c1] 23):=⟨_,rfl⟩
 have zP:wP.heap.size = w.heap.size + 1:=by rw [hwP]; simp
 obtain ⟨w0,hw0⟩:∃ w0,w0 = wP.alloc (.cells #[.int .i64 a2,.int .i64 b2,.int .i64 c2] 23):=⟨_,rfl⟩
 have bP:Below w.heap.size w wP:=by rw [hwP]; exact (Below.refl _ _).alloc (Nat.le_refl _) _
 have b0P:Below wP.heap.size wP w0:=by rw [hw0]; exact (Below.refl _ _).alloc (Nat.le_refl _) _
 have b0:Below w.heap.size w w0:=bP.trans (b0P.mono (by omega))
 have z0:w0.heap.size = w.heap.size + 2:=by rw [hw0]; simp [zP]
 obtain ⟨Q,hQ⟩:∃ Q:Nat -> Prop,Q = fun k=> k < w0.heap.size:=⟨_,rfl⟩
 have cA:∀ t v,#[Value.int .i64 a1,.int .i64 b1,.int .i64 c1][t]? = some v -> w0.cell? ⟨pk,t,none⟩ = some v:=fun t v hv=> (b0P.cell (p:=⟨pk,t,none⟩) (by show pk < _; omega)).trans (by rw [hwP,hpk]; exact cell_new rfl t _ hv)
 have cB:∀ t v,#[Value.int .i64 a2,.int .i64 b2,.int .i64 c2][t]? = some v -> w0.cell? ⟨pk + 1,t,none⟩ = some v:=fun t v hv=> by rw [hw0,hpk,<- zP]; exact cell_new rfl t _ hv
 have HCA:Hid (∀ w',But (fun k=> ¬ Q k) w0 w' -> w'.cell? ⟨pk,0,none⟩ = some (.int .i64 a1) /\ w'.cell? ⟨pk,1,none⟩ = some (.int .i64 b1) /\ w'.cell? ⟨pk,2,none⟩ = some (.int .i64 c1)):=fun w' hb=> by
  have K:∀ t,w'.cell? ⟨pk,t,none⟩ = w0.cell? ⟨pk,t,none⟩:=fun t=> hb.cell (p:=⟨pk,t,none⟩) (by show pk < _; omega) (fun r=> r (by rw [hQ]; show pk < _; omega))
  exact ⟨(K 0).trans (cA 0 _ rfl),(K 1).trans (cA 1 _ rfl),(K 2).trans (cA 2 _ rfl)⟩
 have HCB:Hid (∀ w',But (fun k=> ¬ Q k) w0 w' -> w'.cell? ⟨pk + 1,0,none⟩ = some (.int .i64 a2) /\ w'.cell? ⟨pk + 1,1,none⟩ = some (.int .i64 b2) /\ w'.cell? ⟨pk + 1,2,none⟩ = some (.int .i64 c2)):=fun w' hb=> by
  have K:∀ t,w'.cell? ⟨pk + 1,t,none⟩ = w0.cell? ⟨pk + 1,t,none⟩:=fun t=> hb.cell (p:=⟨pk + 1,t,none⟩) (by show pk + 1 < _; omega) (fun r=> r (by rw [hQ]; show pk + 1 < _; omega))
  exact ⟨(K 0).trans (cB 0 _ rfl),(K 1).trans (cB 1 _ rfl),(K 2).trans (cB 2 _ rfl)⟩
 have HFin:Hid (∀ w',But (fun k=> ¬ Q k) w0 w' -> PO (.returned (.bool true)) w'):=fun w' hb=> by
  rw [hPO]
  refine ⟨rfl,b0.trans (hb.below (by omega) (fun k hk r=> r ?_))⟩
  rw [hQ]
  show k < _
  omega
 have hS0:Scr Q w0 sa As:=by
  refine Scr.wide (Scr.but hS (But.of_below b0)) (fun k hk=> ?_)
  rw [hQ]
  show k < _
  omega
 have HS:Hid (∀ w',But (fun k=> ¬ Q k) w0 w' -> Scr Q w' sa As):=fun w' hb=> hS0.but hb
 have HO:Hid (Calls Tryz.prog 12 #[.agg #[.int .i64 a1,.int .i64 b1,.int .i64 c1]] w0 fun e w1=> ∃ x,e = .returned (.tuple #[.pointer (some ⟨x,0,none⟩),.bool true]) /\ But (fun k=> ¬ Q k) w0 w1 /\ Calls Tryz.prog 12 #[.agg #[.int .i64 a2,.int .i64 b2,.int .i64 c2]] w1 fun e w2=> ∃ y,e = .returned (.tuple #[.pointer (some ⟨y,0,none⟩),.bool true]) /\ Pr Q w0 x y 0 0 w2):=by
  refine Calls.mono (open_dsk a1 b1 c1 w0) ?_
  rintro e w1 ⟨x,Bx,rfl,d1,l1,q1⟩
  refine ⟨x,rfl,But.of_below q1,Calls.mono (open_dsk a2 b2 c2 w1) ?_⟩
  rintro e w2 ⟨y,By,rfl,d2,l2,q2⟩
  refine ⟨y,rfl,Bx,By,d1.below q2,d2,fun k e1 e2=> ?_,fun k e1 e2=> ?_,fun k e1 e2=> ?_,fun k e1=> ?_,But.of_below (q1.trans (q2.mono q1.size))⟩
  ·have:=d1.lt e1
   have:=l2 k e2
   omega
  ·rw [hQ] at e1
   have e1':k < w0.heap.size:=e1
   have:=l1 k e2
   omega
  ·rw [hQ] at e1
   have e1':k < w0.heap.size:=e1
   have:=l2 k e2
   have:=q1.size
   omega
  ·rw [hQ] at e1
   exact e1
 have HLt:Hid (∀ (wl:World) (x y:Nat),Pr Q w0 x y N N wl -> Calls Tryz.prog 24 #[.pointer (some ⟨x,0,none⟩),.pointer (some ⟨y,0,none⟩),.agg #[.int .i64 a1,.int .i64 b1,.int .i64 c1],.slice sa N sc,.int .i64 lo,.int .i64 hi] wl fun e w'=> e = .returned (.bool true) /\ PO (.returned (.bool true)) w'):=fun wl x y hp=> by
  refine Calls.mono (HL wl Q x y w0 hp (HS.out wl hp.base)) ?_
  rintro e w' ⟨rfl,hb⟩
  exact ⟨rfl,HFin.out w' hb⟩
 have HNE:=hid hNe
 have HW0:Hid (w0 = (w.alloc (.cells #[.int .i64 a1,.int .i64 b1,.int .i64 c1] 23)).alloc (.cells #[.int .i64 a2,.int .i64 b2,.int .i64 c2] 23)):=hw0.trans (by rw [hwP])
 have HPK:=hid hpk
 obtain ⟨d0,d1,d2⟩:=HCA.out w0 (But.refl _ _)
 clear hS hN HL hw0 hwP hpk b0 b0P bP z0 zP cA cB hPO hNe hQ hS0 HFin
 go_enter Tryz.func9,Tryz.ntmps9
 go_wp2_with fail
 rw [<- HW0.out,<- HPK.out]
 clear HW0 HPK
 go_wp2_with fail
 refine Calls.mono HO.out ?_
 rintro e w1 ⟨x,rfl,g1,q⟩
 have H2:=hid q
 obtain ⟨e0,e1,e2⟩:=HCB.out w1 g1
 clear q HO HCB d0 d1 d2 g1
 go_wp2_with fail
 refine Calls.mono H2.out ?_
 rintro e w2 ⟨y,rfl,hP⟩
 have HP0:=hid hP
 clear hP H2 e0 e1 e2
 go_wp2_with fail
 go_loopw [15] (fun iv wr=> ∃ (i:Nat),i <= N /\ iv = .int .i64 (i:Int) /\ Pr Q w0 x y i i wr) (fun iv _=> N - (intOf iv).toNat)
 case atStart=> exact ⟨0,Nat.zero_le _,rfl,HP0.out⟩
 case round=>
  clear HP0
  rename World=> wo
  obtain ⟨i,hiN,rfl,hP⟩:=hrel
  by_cases hi9:i < N
  ·have hiL:i < As.length:=by have:=HNE.out; omega
   obtain ⟨q,hq⟩:∃ q,As[i]? = some q:=⟨As[i],List.getElem?_eq_getElem hiL⟩
   obtain ⟨b,off,ea,k0,k1,k2,k3,k4,k5⟩:=(HS.out wo hP.base).at hq
   have HB:=hid (hP.both (by omega) q ((HS.out wo hP.base).2 q (List.mem_of_getElem? hq)))
   have hi':(i:Int) < (N:Int):=by omega
   subst ea
   unfold Aw.val Aw.cells at HB
   clear hP HS hq hiL HLt
   by_cases hw:(bits .and .i64 q.wh 1 == 1) = true
   ·go_wp2_with fail
    refine Calls.mono HB.out.2 ?_
    rintro e w5 ⟨u,rfl,h5⟩
    have H5:=hid h5
    clear h5 HB k0 k1 k2 k3 k4 k5
    go_wp2_with fail
    go_roundw
    case rel=> exact ⟨i + 1,by omega,by go_num,H5.out⟩
    case measure=> simp [intOf]; omega
   ·have hw':(bits .and .i64 q.wh 1 == 1) = false:=by simpa using hw
    clear hw
    go_wp2_with fail
    refine Calls.mono HB.out.1 ?_
    rintro e w5 ⟨u,rfl,h5⟩
    have H5:=hid h5
    clear h5 HB k0 k1 k2 k3 k4 k5
    go_wp2_with fail
    go_roundw
    case rel=> exact ⟨i + 1,by omega,by go_num,H5.out⟩
    case measure=> simp [intOf]; omega
  ·have hie:i = N:=by omega
   have hi':¬ (i:Int) < (N:Int):=by omega
   subst hie
   have HF:=hid (HLt.out wo x y hP)
   obtain ⟨d0,d1,d2⟩:=HCA.out wo hP.base
   clear hP HS HLt HCA HNE
   go_wp2_with fail
   refine Calls.mono HF.out ?_
   rintro e w5 ⟨rfl,h5⟩
   have H5:=hid h5
   clear h5 HF d0 d1 d2
   go_wp2
   exact H5.out
open Go.RowKit Go.Deep
def lastN (a:Int):List Aw:=[⟨0,1,0,a,0,none,0,0⟩,⟨0,11,3,0,0,none,0,0⟩,⟨0,2,0,a,0,none,0,0⟩,⟨0,5,0,0,0,none,0,0⟩,⟨0,9,0,0,0,none,0,0⟩,⟨0,7,0,0,0,none,0,0⟩]
theorem last_scr (w:World) (a:Int) (h1:-9223372036854775808 <= a) (h2:a <= 9223372036854775807) (Q:Nat -> Prop) (hQ:Q w.heap.size):Scr Q (w.alloc (.cells #[Value.int .i64 0,.int .i64 1,.int .i64 0,.int .i64 a,.int .i64 0,.slice none 0 0,.int .i64 0,.int .i64 11,.int .i64 3,.int .i64 0,.int .i64 0,.slice none 0 0,.int .i64 0,.int .i64 2,.int .i64 0,.int .i64 a,.int .i64 0,.slice none 0 0,.int .i64 0,.int .i64 5,.int .i64 0,.int .i64 0,.int .i64 0,.slice none 0 0,.int .i64 0,.int .i64 9,.int .i64 0,.int .i64 0,.int .i64 0,.slice none 0 0,.int .i64 0,.int .i64 7,.int .i64 0,.int .i64 0,.int .i64 0,.slice none 0 0] 42)) (some ⟨w.heap.size,0,none⟩) (lastN a):=by
 obtain ⟨w',hw⟩:∃ w',w' = w.alloc (.cells #[Value.int .i64 0,.int .i64 1,.int .i64 0,.int .i64 a,.int .i64 0,.slice none 0 0,.int .i64 0,.int .i64 11,.int .i64 3,.int .i64 0,.int .i64 0,.slice none 0 0,.int .i64 0,.int .i64 2,.int .i64 0,.int .i64 a,.int .i64 0,.slice none 0 0,.int .i64 0,.int .i64 5,.int .i64 0,.int .i64 0,.int .i64 0,.slice none 0 0,.int .i64 0,.int .i64 9,.int .i64 0,.int .i64 0,.int .i64 0,.slice none 0 0,.int .i64 0,.int .i64 7,.int .i64 0,.int .i64 0,.int .i64 0,.slice none 0 0] 42):=⟨_,rfl⟩
 have hb:w'.heap[w.heap.size]? = some (.cells #[Value.int .i64 0,.int .i64 1,.int .i64 0,.int .i64 a,.int .i64 0,.slice none 0 0,.int .i64 0,.int .i64 11,.int .i64 3,.int .i64 0,.int .i64 0,.slice none 0 0,.int .i64 0,.int .i64 2,.int .i64 0,.int .i64 a,.int .i64 0,.slice none 0 0,.int .i64 0,.int .i64 5,.int .i64 0,.int .i64 0,.int .i64 0,.slice none 0 0,.int .i64 0,.int .i64 9,.int .i64 0,.int .i64 0,.int .i64 0,.slice none 0 0,.int .i64 0,.int .i64 7,.int .i64 0,.int .i64 0,.int .i64 0,.slice none 0 0] 42 (0,0)):=by rw [hw]; exact alloc_new rfl _
 rw [<- hw]
 refine ⟨.inr ⟨w.heap.size,0,rfl,hQ,(Array.getElem?_eq_some_iff.1 hb).1,fun t q hq=> ?_⟩,fun q hq=> ?_⟩
 ·have ht:t < 6:=(List.getElem?_eq_some_iff.1 hq).1
  obtain rfl | rfl | rfl | rfl | rfl | rfl:t = 0 \/ t = 1 \/ t = 2 \/ t = 3 \/ t = 4 \/ t = 5:=by omega
  all_goals
   simp [lastN] at hq
   subst hq
   simp [World.cell?,hb]
 ·have R:∃ zs,RdN (fun k=> ¬ Q k) w' none 0 zs:=⟨[],rfl,Pl.isB_nil,.inl rfl⟩
  simp only [lastN,List.mem_cons,List.not_mem_nil,or_false] at hq
  rcases hq with rfl | rfl | rfl | rfl | rfl | rfl
  all_goals exact ⟨by first | exact h1 | decide,by first | exact h2 | decide,Nat.zero_le _,R⟩
theorem Pr.two {Q:Nat -> Prop} {w0 w:World} {x y i:Nat} (h:Pr Q w0 x y i i w) (hi:i <= 268435454) (q:Aw) (hq:AwIn Q w q):Calls Tryz.prog 13 #[.pointer (some ⟨x,0,none⟩),q.val,.pointer (some ⟨y,0,none⟩)] w fun e w'=> ∃ u,e = .returned (.tuple #[.bool true,u]) /\ But (fun k=> ¬ Q k) w0 w' /\ (AwIn Q w' q -> Calls Tryz.prog 13 #[.pointer (some ⟨y,0,none⟩),q.val,.pointer (some ⟨x,0,none⟩)] w' fun e w2=> ∃ u,e = .returned (.tuple #[.bool true,u]) /\ Pr Q w0 x y (i + 1) (i + 1) w2):=by
 refine Calls.mono (h.act (by omega) (by omega) q hq) ?_
 rintro e w' ⟨u,rfl,q1⟩
 refine ⟨u,rfl,q1.base,fun hq'=> Calls.mono (q1.symm.act (by omega) (by omega) q hq') ?_⟩
 rintro e w2 ⟨u,rfl,q2⟩
 exact ⟨u,rfl,q2.symm⟩
theorem later_any (a1 b1 c1 lo hi:Int) (sa:Option Addr) (sc:Nat) (As:List Aw) (hN:As.length <= 16777216) (wl:World) (Q:Nat -> Prop) (x y:Nat) (w0:World) (hP:Pr Q w0 x y As.length As.length wl) (hS:Scr Q wl sa As):Calls Tryz.prog 24 #[.pointer (some ⟨x,0,none⟩),.pointer (some ⟨y,0,none⟩),.agg #[.int .i64 a1,.int .i64 b1,.int .i64 c1],.slice sa As.length sc,.int .i64 lo,.int .i64 hi] wl fun e w'=> e = .returned (.bool true) /\ But (fun k=> ¬ Q k) w0 w':=by
 obtain ⟨PO,hPO⟩:∃ PO:Ending -> World -> Prop,PO = fun e w'=> e = .returned (.bool true) /\ But (fun k=> ¬ Q k) w0 w':=⟨_,rfl⟩
 rw [<- hPO]
 obtain ⟨N,hNe⟩:∃ N,N = As.length:=⟨_,rfl⟩
 rw [<- hNe] at hP ⊢
 have hN3:N <= 16777216:=by omega
 have l1:=into_lt a1 (show 0 < 10 by decide)
 have l2:=into_lt b1 (show 0 < 16 by decide)
 obtain ⟨bx,hbx⟩:∃ bx,bx = wl.heap.size:=⟨_,rfl⟩
 obtain ⟨wA,hwA⟩:∃ wA,wA = wl.alloc (.cells #[.int .i64 a1,.int .i64 b1,.int .i64 c1] 23):=⟨_,rfl⟩
 have zA:wA.heap.size = wl.heap.size + 1:=by rw [hwA]; simp
 have bA:Below wl.heap.size wl wA:=by rw [hwA]; exact (Below.refl _ _).alloc (Nat.le_refl _) _
 have cA:∀ t v,#[Value.int .i64 a1,.int .i64 b1,.int .i64 c1][t]? = some v -> wA.cell? ⟨bx,t,none⟩ = some v:=fun t v hv=> by rw [hwA,hbx]; exact cell_new rfl t _ hv
 obtain ⟨Bx,By,p1,p2,p3,p4,p5,p6,p7⟩:=hP
 obtain ⟨Q1,hQ1⟩:∃ Q1:Nat -> Prop,Q1 = fun k=> (Q k \/ k = bx) \/ Bx k:=⟨_,rfl⟩
 have q1lt:∀ k,Q1 k -> k < wA.heap.size:=fun k hk=> by
  rw [hQ1] at hk
  rcases hk with (hk | hk) | hk
  ·have:=p6 k hk
   have:=p7.size
   omega
  ·omega
  ·have:=p1.lt hk
   omega
 have HO:Hid (Calls Tryz.prog 12 #[.agg #[.int .i64 a1,.int .i64 b1,.int .i64 c1]] wA fun e w1=> ∃ z,e = .returned (.tuple #[.pointer (some ⟨z,0,none⟩),.bool true]) /\ Below wA.heap.size wA w1 /\ Pr Q1 w1 z y 0 N w1):=by
  refine Calls.mono (open_dsk a1 b1 c1 wA) ?_
  rintro e w1 ⟨z,Bz,rfl,d1,m1,q1⟩
  have q2:Below wl.heap.size wl w1:=bA.trans (q1.mono bA.size)
  refine ⟨z,rfl,q1,Bz,By,d1,p2.below q2,fun k e1 e2=> ?_,fun k e1 e2=> ?_,fun k e1 e2=> ?_,fun k e1=> ?_,But.refl _ _⟩
  ·have:=p2.lt e2
   have:=m1 k e1
   omega
  ·have:=q1lt k e1
   have:=m1 k e2
   omega
  ·rw [hQ1] at e1
   rcases e1 with (e1 | e1) | e1
   ·exact p5 k e1 e2
   ·have:=p2.lt e2
    omega
   ·exact p3 k e1 e2
  ·have:=q1lt k e1
   have:=q1.size
   omega
 have HS:Hid (∀ w1,Below wA.heap.size wA w1 -> Scr Q1 w1 sa As):=fun w1 hb=> by
  have q2:Below wl.heap.size wl w1:=bA.trans (hb.mono bA.size)
  refine Scr.wide (Scr.but hS (But.of_below q2)) (fun k hk=> ?_)
  rw [hQ1]
  exact .inl (.inl hk)
 have HC:Hid (∀ w1 w',Below wA.heap.size wA w1 -> But (fun k=> ¬ Q1 k) w1 w' -> w'.cell? ⟨bx,0,none⟩ = some (.int .i64 a1) /\ w'.cell? ⟨bx,1,none⟩ = some (.int .i64 b1) /\ w'.cell? ⟨bx,2,none⟩ = some (.int .i64 c1)):=fun w1 w' h1 hb=> by
  have:=h1.size
  have K:∀ t,w'.cell? ⟨bx,t,none⟩ = wA.cell? ⟨bx,t,none⟩:=fun t=> (hb.cell (p:=⟨bx,t,none⟩) (by show bx < _; omega) (fun r=> r (by rw [hQ1]; exact .inl (.inr rfl)))).trans (h1.cell (p:=⟨bx,t,none⟩) (by show bx < _; omega))
  exact ⟨(K 0).trans (cA 0 _ rfl),(K 1).trans (cA 1 _ rfl),(K 2).trans (cA 2 _ rfl)⟩
 obtain ⟨fr,hfr⟩:∃ fr,fr = into 10 a1:=⟨_,rfl⟩
 obtain ⟨bl,hbl⟩:∃ bl,bl = 16 + into 16 b1:=⟨_,rfl⟩
 obtain ⟨re,hre⟩:∃ re,re = 1 + into 9 c1:=⟨_,rfl⟩
 have HR:Hid (∀ w',Calls Tryz.prog 16 #[.agg #[.int .i64 a1,.int .i64 b1,.int .i64 c1]] w' fun e w2=> e = .returned (.agg #[.int .i64 (fr:Int),.int .i64 (bl:Int),.int .i64 (re:Int)]) /\ Below w'.heap.size w' w2):=fun w'=> by
  have:=right_any a1 b1 c1 w'
  rw [show (16 + (into 16 b1:Int)) = (bl:Int) by omega,show (1 + (into 9 c1:Int)) = (re:Int) by omega,show ((into 10 a1:Nat):Int) = (fr:Int) by omega] at this
  exact this
 have hfrb:fr < 10:=by omega
 have hblb:bl < 32:=by omega
 have HNE:=hid hNe
 have HWA:Hid (wA = wl.alloc (.cells #[.int .i64 a1,.int .i64 b1,.int .i64 c1] 23)):=hwA
 have HBX:=hid hbx
 have HPO:=hid hPO
 have HX:Hid (Dsk Bx wl x N /\ Below wl.heap.size wl wA /\ (∀ k,Q k -> ¬ Bx k) /\ (∀ k,Q k -> k < w0.heap.size) /\ But (fun k=> ¬ Q k) w0 wl):=⟨p1,bA,p4,p6,p7⟩
 have HQ1:=hid hQ1
 obtain ⟨d0,d1,d2⟩:wA.cell? ⟨bx,0,none⟩ = some (.int .i64 a1) /\ wA.cell? ⟨bx,1,none⟩ = some (.int .i64 b1) /\ wA.cell? ⟨bx,2,none⟩ = some (.int .i64 c1):=⟨cA 0 _ rfl,cA 1 _ rfl,cA 2 _ rfl⟩
 clear hS hN hwA hbx bA zA cA hPO hNe hQ1 p1 p2 p3 p4 p5 p6 p7 q1lt l1 l2 hfr hbl hre
 go_enter Tryz.func24,Tryz.ntmps24
 go_wp2_with fail
 rw [<- HWA.out,<- HBX.out]
 go_wp2_with fail
 refine Calls.mono HO.out ?_
 rintro e w1 ⟨z,rfl,g1,hP⟩
 have HP0:=hid hP
 have HS1:=hid (HS.out w1 g1)
 have HC1:=hid (fun w'=> HC.out w1 w' g1)
 have HG1:=hid g1
 clear hP HO HS HC d0 d1 d2 g1
 go_wp2_with fail
 go_loopw [15] (fun iv wr=> ∃ (i:Nat),i <= N /\ iv = .int .i64 (i:Int) /\ Pr Q1 w1 z y i N wr) (fun iv _=> N - (intOf iv).toNat)
 case atStart=> exact ⟨0,Nat.zero_le _,rfl,HP0.out⟩
 case round=>
  clear HP0
  rename World=> wo
  obtain ⟨i,hiN,rfl,hP⟩:=hrel
  by_cases hi9:i < N
  ·have hiL:i < As.length:=by have:=HNE.out; omega
   obtain ⟨q,hq⟩:∃ q,As[i]? = some q:=⟨As[i],List.getElem?_eq_getElem hiL⟩
   have hSo:=HS1.out.but hP.base
   obtain ⟨b,off,ea,k0,k1,k2,k3,k4,k5⟩:=hSo.at hq
   have HB:=hid (hP.act (by omega) (by omega) q (hSo.2 q (List.mem_of_getElem? hq)))
   have HB2:=hid (hP.mono (show i <= i + 1 by omega) (Nat.le_refl N))
   have hi':(i:Int) < (N:Int):=by omega
   subst ea
   unfold Aw.val Aw.cells at HB
   clear hP HS1 HC1 hq hiL HR HPO HX HQ1 HWA HBX HG1 hSo
   by_cases hw:(bits .and .i64 q.wh 1 == 1) = true
   ·clear HB
    go_wp2_with fail
    go_roundw
    case rel=> exact ⟨i + 1,by omega,by go_num,HB2.out⟩
    case measure=> simp [intOf]; omega
   ·have hw':(bits .and .i64 q.wh 1 == 1) = false:=by simpa using hw
    clear hw HB2
    go_wp2_with fail
    refine Calls.mono HB.out ?_
    rintro e w5 ⟨u,rfl,h5⟩
    have H5:=hid h5
    clear h5 HB k0 k1 k2 k3 k4 k5
    go_wp2_with fail
    go_roundw
    case rel=> exact ⟨i + 1,by omega,by go_num,H5.out⟩
    case measure=> simp [intOf]; omega
  ·have hie:i = N:=by omega
   have hi':¬ (i:Int) < (N:Int):=by omega
   subst hie
   obtain ⟨d0,d1,d2⟩:=HC1.out wo hP.base
   have HP:=hid hP
   clear hP HC1 HS1 HNE
   go_wp2_with fail
   refine Calls.mono (HR.out wo) ?_
   rintro e w3 ⟨rfl,b3⟩
   have HB3:=hid b3
   clear b3 HR d0 d1 d2
   obtain ⟨w4,hw4⟩:∃ w4,w4 = (w3.alloc (.cells #[.int .i64 (fr:Int),.int .i64 (bl:Int),.int .i64 (re:Int)] 23)).alloc (.cells #[.int .i64 0,.int .i64 1,.int .i64 0,.int .i64 ((fr:Int) + (bl:Int)),.int .i64 0,.slice none 0 0,.int .i64 0,.int .i64 11,.int .i64 3,.int .i64 0,.int .i64 0,.slice none 0 0,.int .i64 0,.int .i64 2,.int .i64 0,.int .i64 ((fr:Int) + (bl:Int)),.int .i64 0,.slice none 0 0,.int .i64 0,.int .i64 5,.int .i64 0,.int .i64 0,.int .i64 0,.slice none 0 0,.int .i64 0,.int .i64 9,.int .i64 0,.int .i64 0,.int .i64 0,.slice none 0 0,.int .i64 0,.int .i64 7,.int .i64 0,.int .i64 0,.int .i64 0,.slice none 0 0] 42):=⟨_,rfl⟩
   obtain ⟨la,hla⟩:∃ la:Option Addr,la = some ⟨w3.heap.size + 1,0,none⟩:=⟨_,rfl⟩
   obtain ⟨Q2,hQ2⟩:∃ Q2:Nat -> Prop,Q2 = fun k=> Q k \/ k = w3.heap.size + 1:=⟨_,rfl⟩
   have H4:Hid (Pr Q2 w4 x y i i w4 /\ Scr Q2 w4 la (lastN ((fr:Int) + (bl:Int))) /\ ∀ w',But (fun k=> ¬ Q2 k) w4 w' -> PO (.returned (.bool true)) w'):=by
    obtain ⟨x1,x2,x3,x4,x5⟩:=HX.out
    obtain ⟨Bz,By',r1,r2,r3,r4,r5,r6,r7⟩:=HP.out
    have g1:=HG1.out
    have e1:=HQ1.out
    have s1:=x2.size
    have s2:=g1.size
    have s3:=HB3.out.size
    have s5:=x5.size
    have s7:=r7.size
    have zA:(w3.alloc (.cells #[.int .i64 (fr:Int),.int .i64 (bl:Int),.int .i64 (re:Int)] 23)).heap.size = w3.heap.size + 1:=by simp
    have z4:w4.heap.size = w3.heap.size + 2:=by rw [hw4]; simp
    have b34:Below w3.heap.size w3 w4:=by
     rw [hw4]
     exact ((Below.refl w3.heap.size w3).alloc (Nat.le_refl _) _).alloc (by simp) _
    have bo4:Below wo.heap.size wo w4:=HB3.out.trans (b34.mono HB3.out.size)
    have bl1:Below wl.heap.size wl w1:=x2.trans (g1.mono s1)
    refine ⟨⟨Bx,By',?_,r2.below bo4,fun k e2 e3=> ?_,fun k e2 e3=> ?_,fun k e2 e3=> ?_,fun k e2=> ?_,But.refl _ _⟩,?_,fun w' hb=> ?_⟩
    ·refine ((x1.below bl1).keep r7 (fun k _ e2 e3=> e2 ?_)).below bo4
     rw [e1]
     exact .inr e3
    ·refine r5 k ?_ e3
     rw [e1]
     exact .inr e2
    ·rw [hQ2] at e2
     rcases e2 with e2 | e2
     ·exact x3 k e2 e3
     ·have:=x1.lt e3
      omega
    ·rw [hQ2] at e2
     rcases e2 with e2 | e2
     ·refine r5 k ?_ e3
      rw [e1]
      exact .inl (.inl e2)
     ·have:=r2.lt e3
      omega
    ·rw [hQ2] at e2
     rcases e2 with e2 | e2
     ·have:=x4 k e2
      omega
     ·omega
    ·rw [hw4,hla]
     have:=last_scr (w3.alloc (.cells #[.int .i64 (fr:Int),.int .i64 (bl:Int),.int .i64 (re:Int)] 23)) ((fr:Int) + (bl:Int)) (by omega) (by omega) Q2 (by rw [zA,hQ2]; exact .inr rfl)
     rw [zA] at this
     exact this
    ·rw [HPO.out]
     refine ⟨rfl,((((x5.trans (But.of_below bl1)).comp r7 (fun k _ e2 e3=> e2 ?_)).trans (But.of_below bo4)).comp hb (fun k _ e2 e3=> e2 ?_))⟩
     ·rw [e1]
      exact .inl (.inl e3)
     ·rw [hQ2]
      exact .inl e3
   have HW4:=hid hw4
   have HLA:=hid hla
   clear hw4 hla hQ2 HX HP HG1 HQ1 HB3 HPO HWA HBX
   go_wp2_with fail
   rw [<- HW4.out,<- HLA.out]
   clear HW4 HLA
   go_loopw [20] (fun iv wr=> ∃ (j:Nat),j <= 6 /\ iv = .int .i64 (j:Int) /\ Pr Q2 w4 x y (i + j) (i + j) wr) (fun iv _=> 6 - (intOf iv).toNat)
   case atStart=> exact ⟨0,Nat.zero_le _,rfl,H4.out.1⟩
   case round=>
    rename World=> wp
    obtain ⟨j,hj6,rfl,hP⟩:=hrel
    by_cases hj9:j < 6
    ·have hjL:j < (lastN ((fr:Int) + (bl:Int))).length:=hj9
     obtain ⟨q,hq⟩:∃ q,(lastN ((fr:Int) + (bl:Int)))[j]? = some q:=⟨_,List.getElem?_eq_getElem hjL⟩
     have hSo:=H4.out.2.1.but hP.base
     obtain ⟨b,off,ea,k0,k1,k2,k3,k4,k5⟩:=hSo.at hq
     have HB:=hid (hP.two (by omega) q (hSo.2 q (List.mem_of_getElem? hq)))
     have HQ:Hid (∀ w',But (fun k=> ¬ Q2 k) w4 w' -> (w'.cell? ⟨b,off + j * 6,none⟩ = some (.int .i64 q.wh) /\ w'.cell? ⟨b,off + j * 6 + 1,none⟩ = some (.int .i64 q.kd) /\ w'.cell? ⟨b,off + j * 6 + 2,none⟩ = some (.int .i64 q.tx) /\ w'.cell? ⟨b,off + j * 6 + 3,none⟩ = some (.int .i64 q.at_) /\ w'.cell? ⟨b,off + j * 6 + 4,none⟩ = some (.int .i64 q.fl) /\ w'.cell? ⟨b,off + j * 6 + 5,none⟩ = some (.slice q.ra q.rn q.rc)) /\ AwIn Q2 w' q):=fun w' hb=> by
      have hSw:=H4.out.2.1.but hb
      obtain ⟨b',off',ea',kk⟩:=hSw.at hq
      rw [ea] at ea'
      have e9:b = b' /\ off = off':=by injection ea' with e9; injection e9 with e9 e8; exact ⟨e9,e8⟩
      rw [e9.1,e9.2]
      exact ⟨kk,hSw.2 q (List.mem_of_getElem? hq)⟩
     have hj':(j:Int) < 6:=by omega
     subst ea
     unfold Aw.val Aw.cells at HB
     clear hP H4 hq hjL hSo
     go_wp2_with fail
     refine Calls.mono HB.out ?_
     rintro e w5 ⟨u,rfl,b5,h5⟩
     obtain ⟨⟨m0,m1,m2,m3,m4,m5⟩,hin⟩:=HQ.out w5 b5
     have H5:=hid (h5 hin)
     clear h5 HB HQ hin b5 k0 k1 k2 k3 k4 k5
     go_wp2_with fail
     refine Calls.mono H5.out ?_
     rintro e w6 ⟨u,rfl,h6⟩
     have H6:=hid h6
     clear h6 H5 m0 m1 m2 m3 m4 m5
     go_wp2_with fail
     go_roundw
     case rel=> exact ⟨j + 1,by omega,by go_num,H6.out⟩
     case measure=> simp [intOf]; omega
    ·have hje:j = 6:=by omega
     subst hje
     have HF:=hid (H4.out.2.2 wp hP.base)
     clear hP H4
     go_wp2
     exact HF.out
open Go.RowKit Go.Deep
theorem plays_any (a1 b1 c1 a2 b2 c2 lo hi:Int) (sa:Option Addr) (sc:Nat) (As:List Aw) (w:World) (hS:Scr (fun k=> k < w.heap.size) w sa As) (hN:As.length <= 16777216) :
  Calls Tryz.prog 9 #[.agg #[.int .i64 a1,.int .i64 b1,.int .i64 c1],.agg #[.int .i64 a2,.int .i64 b2,.int .i64 c2],.slice sa As.length sc,.int .i64 lo,.int .i64 hi] w fun e w'=> e = .returned (.bool true) /\ Below w.heap.size w w' :=
 plays_of a1 b1 c1 a2 b2 c2 lo hi sa sc As w hS hN (fun wl Q x y w0 hP hS=> later_any a1 b1 c1 lo hi sa sc As hN wl Q x y w0 hP hS)
theorem reads_law (a1 b1 c1 a2 b2 c2:Int) (sa:Option Addr) (sc:Nat) (As:List Aw) (w:World) (hS:Scr (fun k=> k < w.heap.size) w sa As) (hN:As.length <= 16777216) :
  Calls Tryz.prog 3 #[.agg #[.int .i64 a1,.int .i64 b1,.int .i64 c1],.agg #[.int .i64 a2,.int .i64 b2,.int .i64 c2],.slice sa As.length sc] w fun e w'=> e = .returned (.bool true) /\ Below w.heap.size w w':=by
 obtain ⟨PO,hPO⟩:∃ PO:Ending -> World -> Prop,PO = fun e w'=> e = .returned (.bool true) /\ Below w.heap.size w w':=⟨_,rfl⟩
 rw [<- hPO]
 obtain ⟨wP,hwP⟩:∃ wP,wP = w.alloc (.cells #[.int .i64 a1,.int .i64 b1,.int .i64 c1] 23):=⟨_,rfl⟩
 have zP:wP.heap.size = w.heap.size + 1:=by rw [hwP]; simp
 obtain ⟨w0,hw0⟩:∃ w0,w0 = wP.alloc (.cells #[.int .i64 a2,.int .i64 b2,.int .i64 c2] 23):=⟨_,rfl⟩
 have bP:Below w.heap.size w wP:=by rw [hwP]; exact (Below.refl _ _).alloc (Nat.le_refl _) _
 have b0P:Below wP.heap.size wP w0:=by rw [hw0]; exact (Below.refl _ _).alloc (Nat.le_refl _) _
 have b0:Below w.heap.size w w0:=bP.trans (b0P.mono (by omega))
 have z0:w0.heap.size = w.heap.size + 2:=by rw [hw0]; simp [zP]
 have HF:Hid (Calls Tryz.prog 9 #[.agg #[.int .i64 a1,.int .i64 b1,.int .i64 c1],.agg #[.int .i64 a2,.int .i64 b2,.int .i64 c2],.slice sa As.length sc,.int .i64 1,.int .i64 2] w0 fun e w'=> e = .returned (.bool true) /\ PO (.returned (.bool true)) w'):=by
  refine Calls.mono (plays_any a1 b1 c1 a2 b2 c2 1 2 sa sc As w0 (Scr.wide (Scr.but hS (But.of_below b0)) (fun k hk=> by show k < _; have:k < w.heap.size:=hk; omega)) hN) ?_
  rintro e w' ⟨rfl,hb⟩
  rw [hPO]
  exact ⟨rfl,rfl,b0.trans (hb.mono (by omega))⟩
 have HW0:Hid (w0 = (w.alloc (.cells #[.int .i64 a1,.int .i64 b1,.int .i64 c1] 23)).alloc (.cells #[.int .i64 a2,.int .i64 b2,.int .i64 c2] 23)):=hw0.trans (by rw [hwP])
 clear hS hN hw0 hwP b0 b0P bP z0 zP hPO
 go_enter Tryz.func3,Tryz.ntmps3
 go_wp2_with fail
 rw [<- HW0.out]
 refine Calls.mono HF.out ?_
 rintro e w5 ⟨rfl,h5⟩
 have H5:=hid h5
 clear h5 HF HW0
 go_wp2
 exact H5.out
theorem writes_law (a1 b1 c1 a2 b2 c2:Int) (sa:Option Addr) (sc:Nat) (As:List Aw) (w:World) (hS:Scr (fun k=> k < w.heap.size) w sa As) (hN:As.length <= 16777216) :
  Calls Tryz.prog 4 #[.agg #[.int .i64 a1,.int .i64 b1,.int .i64 c1],.agg #[.int .i64 a2,.int .i64 b2,.int .i64 c2],.slice sa As.length sc] w fun e w'=> e = .returned (.bool true) /\ Below w.heap.size w w':=by
 obtain ⟨PO,hPO⟩:∃ PO:Ending -> World -> Prop,PO = fun e w'=> e = .returned (.bool true) /\ Below w.heap.size w w':=⟨_,rfl⟩
 rw [<- hPO]
 obtain ⟨wP,hwP⟩:∃ wP,wP = w.alloc (.cells #[.int .i64 a1,.int .i64 b1,.int .i64 c1] 23):=⟨_,rfl⟩
 have zP:wP.heap.size = w.heap.size + 1:=by rw [hwP]; simp
 obtain ⟨w0,hw0⟩:∃ w0,w0 = wP.alloc (.cells #[.int .i64 a2,.int .i64 b2,.int .i64 c2] 23):=⟨_,rfl⟩
 have bP:Below w.heap.size w wP:=by rw [hwP]; exact (Below.refl _ _).alloc (Nat.le_refl _) _
 have b0P:Below wP.heap.size wP w0:=by rw [hw0]; exact (Below.refl _ _).alloc (Nat.le_refl _) _
 have b0:Below w.heap.size w w0:=bP.trans (b0P.mono (by omega))
 have z0:w0.heap.size = w.heap.size + 2:=by rw [hw0]; simp [zP]
 have HF:Hid (Calls Tryz.prog 9 #[.agg #[.int .i64 a1,.int .i64 b1,.int .i64 c1],.agg #[.int .i64 a2,.int .i64 b2,.int .i64 c2],.slice sa As.length sc,.int .i64 3,.int .i64 6] w0 fun e w'=> e = .returned (.bool true) /\ PO (.returned (.bool true)) w'):=by
  refine Calls.mono (plays_any a1 b1 c1 a2 b2 c2 3 6 sa sc As w0 (Scr.wide (Scr.but hS (But.of_below b0)) (fun k hk=> by show k < _; have:k < w.heap.size:=hk; omega)) hN) ?_
  rintro e w' ⟨rfl,hb⟩
  rw [hPO]
  exact ⟨rfl,rfl,b0.trans (hb.mono (by omega))⟩
 have HW0:Hid (w0 = (w.alloc (.cells #[.int .i64 a1,.int .i64 b1,.int .i64 c1] 23)).alloc (.cells #[.int .i64 a2,.int .i64 b2,.int .i64 c2] 23)):=hw0.trans (by rw [hwP])
 clear hS hN hw0 hwP b0 b0P bP z0 zP hPO
 go_enter Tryz.func4,Tryz.ntmps4
 go_wp2_with fail
 rw [<- HW0.out]
 refine Calls.mono HF.out ?_
 rintro e w5 ⟨rfl,h5⟩
 have H5:=hid h5
 clear h5 HF HW0
 go_wp2
 exact H5.out
theorem ends_law (a1 b1 c1 a2 b2 c2:Int) (sa:Option Addr) (sc:Nat) (As:List Aw) (w:World) (hS:Scr (fun k=> k < w.heap.size) w sa As) (hN:As.length <= 16777216) :
  Calls Tryz.prog 5 #[.agg #[.int .i64 a1,.int .i64 b1,.int .i64 c1],.agg #[.int .i64 a2,.int .i64 b2,.int .i64 c2],.slice sa As.length sc] w fun e w'=> e = .returned (.bool true) /\ Below w.heap.size w w':=by
 obtain ⟨PO,hPO⟩:∃ PO:Ending -> World -> Prop,PO = fun e w'=> e = .returned (.bool true) /\ Below w.heap.size w w':=⟨_,rfl⟩
 rw [<- hPO]
 obtain ⟨wP,hwP⟩:∃ wP,wP = w.alloc (.cells #[.int .i64 a1,.int .i64 b1,.int .i64 c1] 23):=⟨_,rfl⟩
 have zP:wP.heap.size = w.heap.size + 1:=by rw [hwP]; simp
 obtain ⟨w0,hw0⟩:∃ w0,w0 = wP.alloc (.cells #[.int .i64 a2,.int .i64 b2,.int .i64 c2] 23):=⟨_,rfl⟩
 have bP:Below w.heap.size w wP:=by rw [hwP]; exact (Below.refl _ _).alloc (Nat.le_refl _) _
 have b0P:Below wP.heap.size wP w0:=by rw [hw0]; exact (Below.refl _ _).alloc (Nat.le_refl _) _
 have b0:Below w.heap.size w w0:=bP.trans (b0P.mono (by omega))
 have z0:w0.heap.size = w.heap.size + 2:=by rw [hw0]; simp [zP]
 have HF:Hid (Calls Tryz.prog 9 #[.agg #[.int .i64 a1,.int .i64 b1,.int .i64 c1],.agg #[.int .i64 a2,.int .i64 b2,.int .i64 c2],.slice sa As.length sc,.int .i64 7,.int .i64 12] w0 fun e w'=> e = .returned (.bool true) /\ PO (.returned (.bool true)) w'):=by
  refine Calls.mono (plays_any a1 b1 c1 a2 b2 c2 7 12 sa sc As w0 (Scr.wide (Scr.but hS (But.of_below b0)) (fun k hk=> by show k < _; have:k < w.heap.size:=hk; omega)) hN) ?_
  rintro e w' ⟨rfl,hb⟩
  rw [hPO]
  exact ⟨rfl,rfl,b0.trans (hb.mono (by omega))⟩
 have HW0:Hid (w0 = (w.alloc (.cells #[.int .i64 a1,.int .i64 b1,.int .i64 c1] 23)).alloc (.cells #[.int .i64 a2,.int .i64 b2,.int .i64 c2] 23)):=hw0.trans (by rw [hwP])
 clear hS hN hw0 hwP b0 b0P bP z0 zP hPO
 go_enter Tryz.func5,Tryz.ntmps5
 go_wp2_with fail
 rw [<- HW0.out]
 refine Calls.mono HF.out ?_
 rintro e w5 ⟨rfl,h5⟩
 have H5:=hid h5
 clear h5 HF HW0
 go_wp2
 exact H5.out
end Go.Proofs.YthfojpcibnfmgaaGreat
