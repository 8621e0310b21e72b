import Derived.Test.YtlefjidbpjkhlaaGreatK21
import Derived.Test.YtlefjidbpjkhlaaGreatK28
import Derived.Deep.RegionHeld3
import Derived.Deep.DeepCutAuto
set_option maxRecDepth 100000
set_option maxHeartbeats 16000000
namespace Go.Proofs.YtlefjidbpjkhlaaGreat
variable {X Y Z Z' Zw:Nat->Prop}
variable {w w':World}
variable {K bl c j lo p st:Nat}
variable {d:Pd}
variable {s:Js}
variable {mv sv tv:Value}
variable {L:Nat->Option (List Int)}
variable {Ts:List Tn}
variable {who:Option Bool}
variable {off:Bool}
open Go.RowKit Go.Deep
def StM (Y:Nat->Prop) (w:World) (j c p st nb K fr bl:Nat) (d:Pd) (s:Js) (t x m n:Nat) (a:Nat->Option Wr) (ss:List Sp) (ms:List Mr) (val:Nat->List Int):Prop :=
 ∃Z Zw sv mv,Jq Z w j c p 16 nb K fr bl d s/\Wm Zw w x j m n nb fr bl a sv mv ss ms val/\Txb w t j (.iface 83 (.pointer (some ⟨x,0,none⟩))) st (.pointer (some ⟨x,0,none⟩))/\Stb w st j (.pointer (some ⟨t,0,none⟩))/\(∀k,Z k->Y k)/\(∀k,Zw k->Y k/\¬Z k)/\st≠t/\(¬Z t/\¬Zw t/\Y t)/\(¬Z st/\¬Zw st/\Y st)
theorem StM.step{Zw':Nat->Prop}{nb fr:Nat}{t x m n:Nat}{a:Nat->Option Wr}{ss:List Sp}{ms:List Mr}{val:Nat->List Int}(q3:Txb w t j (.iface 83 (.pointer (some ⟨x,0,none⟩))) st (.pointer (some ⟨x,0,none⟩)))(q4:Stb w st j (.pointer (some ⟨t,0,none⟩)))(q5:∀k,Z k->Y k)(q6:∀k,Zw k->Y k/\¬Z k)(q8:st≠t)(q9:¬Z t/\¬Zw t/\Y t)(q10:¬Z st/\¬Zw st/\Y st)(hJ:Jq Z' w' j c p 16 nb K fr bl d s)(hW:Wm Zw' w' x j m n nb fr bl a sv mv ss ms val)(gZ:Gr Z Z' w)(gW:Gr Zw Zw' w)(hd:∀k,Zw' k->¬Z' k)(lZ:∀k,Z' k->k<w'.heap.size)(lW:∀k,Zw' k->k<w'.heap.size)(hb:But (fun k=>Z k\/Zw k) w w') :
  ∃Y',StM Y' w' j c p st nb K fr bl d s t x m n a ss ms val/\(∀k,Y' k->k<w'.heap.size)/\Gr Y Y' w/\But Y w w':=by
 have hs:=hb.size
 have ht:=q3.lt
 have hst:=q4.lt
 refine⟨growZ Y (fun k=>Z' k\/Zw' k) w w',⟨Z',Zw',sv,mv,hJ,hW,q3.keep (hb.block t ht (fun e=>e.elim q9.1 q9.2.1)),q4.keep (hb.block st hst (fun e=>e.elim q10.1 q10.2.1)),fun k e=>?_,fun k e=>⟨?_,hd k e⟩,q8,⟨fun e=>q9.1 (gZ t ht e),fun e=>q9.2.1 (gW t ht e),.inl ⟨q9.2.2,ht⟩⟩,⟨fun e=>q10.1 (gZ st hst e),fun e=>q10.2.1 (gW st hst e),.inl ⟨q10.2.2,hst⟩⟩⟩,fun k q=>by rcases q with q | q <;> omega,growZ.gr _ _ _ _,hb.mono (fun k _ e=>e.elim (q5 k) (fun e=>(q6 k e).1))⟩
 ·rcases Nat.lt_or_ge k w.heap.size with q | q
  ·exact .inl ⟨q5 k (gZ k q e),q⟩
  ·exact .inr ⟨.inl e,q,lZ k e⟩
 ·rcases Nat.lt_or_ge k w.heap.size with q | q
  ·exact .inl ⟨(q6 k (gW k q e)).1,q⟩
  ·exact .inr ⟨.inr e,q,lW k e⟩
theorem StT.stm{nb fr:Nat}{t x m n:Nat}(h:StT Y w j c p st nb K fr bl d s t x m n (fun _=>none)):StM Y w j c p st nb K fr bl d s t x m n (fun _=>none) [] [] (fun _=>[]):=by
 obtain⟨Z,Zw,D,a,q1,q2,q3,q4,q5,q6,q7,q8,q9,q10⟩:=h
 have ha:a=fun _=>none:=by
  funext y
  cases e:a y with
  | none=>rfl
  | some r=>
   obtain⟨zs,e1,_⟩:=q2.dat y r.1 r.2.1 r.2.2 e
   cases e1
 subst ha
 refine⟨Z,Zw,.slice none 0 0,.slice none 0 0,q1,⟨q2.blk,⟨D,q2.mp,q2.am⟩,⟨rfl,.inl ⟨rfl,rfl⟩⟩,⟨rfl,.inl ⟨rfl,rfl⟩⟩,fun y r q=>?_,fun s hs=>by simp at hs,Mk.nil,q2.zx,q2.zm,fun k e=>by simp[Value.ownBlock]at e,fun k e=>by simp[Value.ownBlock]at e⟩,q3,q4,q5,q6,q8.2,q9,q10⟩
 rcases q with q | ⟨i,pp,b,q,_⟩
 ·cases q
 ·simp at q
def WrM (Y:Nat->Prop) (w:World) (j c p st nb K fr bl:Nat) (d:Pd) (s:Js) (t x m n:Nat) (a:Nat->Option Wr) (ss:List Sp) (ms:List Mr) (val:Nat->List Int) (y:Nat) (zs:List Int) (w':World):Prop :=
 ∃Y' a' ss' val',StM Y' w' j c p st nb (K+1) fr bl d s t x m (n+1) a' ss' ms val'/\LofA a' val'=putL (LofA a val) y zs/\(∀(i p:Nat) (b:Nat->Option Wr),ms[i]?=some (p,b)->LofA b val'=LofA b val)/\ss'.length<=ss.length+1/\(∀k,Y' k->k<w'.heap.size)/\Gr Y Y' w/\But Y w w'
theorem StM.write{nb fr:Nat}{t x m n:Nat}{a:Nat->Option Wr}{ss:List Sp}{ms:List Mr}{val:Nat->List Int}(h:StM Y w j c p st nb K fr bl d s t x m n a ss ms val)(hn:n<=1073741823)(hns:ss.length<=1073741823)(h1:fr+bl<=nb)(hon:d.off=false)(hl:d.puts.length<=1073741824)(hK:K<4611686018427387904)(hnb:nb<=524288)(y:Nat)(hy:y<nb)(hh:homeC nb fr bl (y:Int)=0)(ad:Addr)(cd:Nat)(zs:List Int)(hR:∀w',But Y w w'->Rd w'.heap.size w' (some ad) 512 zs) :
  Calls Tryz.prog 52 #[.pointer (some ⟨t,0,none⟩),.int .i64 (y:Int),.slice (some ad) 512 cd] w fun e w'=>e=.returned (.int .i64 0)/\WrM Y w j c p st nb K fr bl d s t x m n a ss ms val y zs w':=by
 refine poz fun PO hPO=>?_
 obtain⟨Z,Zw,sv,mv,q1,q2,q3,q4,q5,q6,q8,q9,q10⟩:=h
 obtain⟨D,hWq⟩:=q2.wq
 have HA:=hid (task_open q1 hon q3 q4)
 have HL:Hid (∀w1,Below w.heap.size w w1->Calls Tryz.prog 62 #[.pointer (some ⟨t,0,none⟩),.int .i64 (y:Int)] w1 (RdH (fun k=>Z k/\k<w.heap.size) w1 j c p 16 nb K fr bl d s ((LofA a val y).getD (jread d s y)))):=fun w1 b1=>look_w (q1.cut.below b1) (hWq.keep (fun k _ hk=>b1.block k hk)) h1 hon hl hK hnb y hy hh ((b1.cell (p:=⟨t,1,none⟩) q3.lt).trans (q3.cell 1))
 have HP:Hid (∀w1 e w',Below w.heap.size w w1->RdH (fun k=>Z k/\k<w.heap.size) w1 j c p 16 nb K fr bl d s ((LofA a val y).getD (jread d s y)) e w'->RdH Z w j c p 16 nb K fr bl d s ((LofA a val y).getD (jread d s y)) e w'):=fun w1 e w' b q=>q.low b
 have HC:Hid (∀e w',RdH Z w j c p 16 nb K fr bl d s ((LofA a val y).getD (jread d s y)) e w'->w'.cell? ⟨t,3,none⟩=some (.pointer (some ⟨x,0,none⟩))):=fun e w' q=>by
  obtain⟨g,cp,_,_,_,_,_,q8⟩:=q
  exact (q8.cell (p:=⟨t,3,none⟩) q3.lt q9.1).trans (q3.cell 3)
 have HY:Hid (∀e w',RdH Z w j c p 16 nb K fr bl d s ((LofA a val y).getD (jread d s y)) e w'->Calls Tryz.prog 95 #[.pointer (some ⟨x,0,none⟩),.int .i64 (y:Int),.slice (some ad) 512 cd] w' fun e w'=>e=.returned (.tuple #[])/\PO (.returned (.int .i64 0)) w'):=fun e w3 q=>by
  obtain⟨g0,cp0,_,_,_,_,⟨Z',r5,r6,r7⟩,r8⟩:=q
  have s8:=r8.size
  have hW3:Wm (fun k=>Zw k/\k<w.heap.size) w3 x j m n nb fr bl a sv mv ss ms val:=q2.keepZ (fun k q hk=>r8.block k hk (q6 k q).2) (fun k q hk=>⟨q,hk⟩)
  refine Calls.mono (hW3.lay hn hns y hy hh hnb ad cd zs (hR w3 (r8.mono (fun k _ e=>q5 k e)))) ?_
  rintro e w' ⟨rfl,a',sv',ss',val',Zw',u1,u2,u3,u4,u5,u6,u7⟩
  refine⟨rfl,?_⟩
  rw[hPO]
  have s7:=u7.size
  have hJ:Jq (fun k=>Z' k/\k<w3.heap.size) w' j c p 16 nb (K+1) fr bl d s:=r5.cut.but u7 (fun k _ e1 e2=>(q6 k e2.1).2 (r6 k e2.2 e1.1))
  have hdj:∀k,Zw' k->¬(Z' k/\k<w3.heap.size):=fun k e e2=>by
   have e3:=u6 k e2.2 e
   exact (q6 k e3.1).2 (r6 k e3.2 e2.1)
  obtain⟨Y',v1,v2,v3,v4⟩:=StM.step q3 q4 q5 q6 q8 q9 q10 hJ u1 (fun k hk e=>r6 k hk e.1) (fun k hk e=>(u6 k (by omega) e).1) hdj (fun k e=>by omega) u5 ((r8.mono (fun k _ e=>.inl e)).comp u7 (fun k _ e=>.inr e.1))
  exact⟨rfl,Y',a',ss',val',v1,u2,u3,u4,v2,v3,v4⟩
 clear q1 q2 q3 q4 hPO q5 q6 q8 q9 q10 hR hWq
 go_enter Tryz.func52,Tryz.ntmps52
 go_wp2_with fail
 refine Calls.mono HA.out ?_
 rintro e w1 ⟨rfl,b1⟩
 have HL1:=hid (HL.out w1 b1)
 have HP1:Hid (∀e w',RdH (fun k=>Z k/\k<w.heap.size) w1 j c p 16 nb K fr bl d s ((LofA a val y).getD (jread d s y)) e w'->RdH Z w j c p 16 nb K fr bl d s ((LofA a val y).getD (jread d s y)) e w'):=fun e w' q=>HP.out w1 e w' b1 q
 clear b1 HA HL HP
 go_wp2_with fail
 refine Calls.mono HL1.out ?_
 rintro e w3 q
 obtain⟨g3,cp3,rfl,_⟩:=id q
 have k3:=HC.out _ w3 (HP1.out _ w3 q)
 have HY1:=hid (HY.out _ w3 (HP1.out _ w3 q))
 clear q HL1 HP1 HC HY
 go_wp2_with fail
 refine Calls.mono HY1.out ?_
 rintro e w5 ⟨rfl,q⟩
 have FIN:=hid q
 clear q HY1
 go_wp2
 exact FIN.out
open Go.RowKit Go.Deep
theorem StM.cut{nb fr:Nat}{t x m n:Nat}{a:Nat->Option Wr}{ss:List Sp}{ms:List Mr}{val:Nat->List Int}(h:StM Y w j c p st nb K fr bl d s t x m n a ss ms val):StM (fun k=>Y k/\k<w.heap.size) w j c p st nb K fr bl d s t x m n a ss ms val:=by
 obtain⟨Z,Zw,sv,mv,q1,q2,q3,q4,q5,q6,q8,q9,q10⟩:=h
 exact⟨fun k=>Z k/\k<w.heap.size,fun k=>Zw k/\k<w.heap.size,sv,mv,q1.cut,q2.cut,q3,q4,fun k e=>⟨q5 k e.1,e.2⟩,fun k e=>⟨⟨(q6 k e.1).1,e.2⟩,fun e2=>(q6 k e.1).2 e2.1⟩,q8,⟨fun e=>q9.1 e.1,fun e=>q9.2.1 e.1,q9.2.2,q3.lt⟩,⟨fun e=>q10.1 e.1,fun e=>q10.2.1 e.1,q10.2.2,q4.lt⟩⟩
open Go.RowKit Go.Deep
theorem CmP.txb{room nb fr:Nat}{t:Nat}{e:Ending}(H:CmP Z Zw w j c p room nb K fr bl d s L t st e w')(hZt:¬Z t):Txb w' t j .nilIface st (.pointer none):=by
 obtain⟨w3,q1,_,_,q4⟩:=H
 rcases q4 with ⟨_,_,rfl⟩ | ⟨_,qs,_,_,k4⟩
 ·exact q1
 ·by_cases hc:appC nb fr bl d s qs=0
  ·obtain⟨_,_,r5⟩:=k4.1 hc
   exact q1.keep (r5.block t q1.lt (fun e=>hZt e.1))
  ·exact q1.keep ((k4.2 hc).2.block t q1.lt)
structure OT where
 t:Nat
 x:Nat
 m:Nat
 n:Nat
 a:Nat->Option Wr
 ss:List Sp
 ms:List Mr
 val:Nat->List Int
def StO (Y:Nat->Prop) (w:World) (j c p st nb K fr bl:Nat) (d:Pd) (s:Js):Option OT->Prop
 | none=>StA Y w j c p st nb K fr bl d s
 | some o=>StM Y w j c p st nb K fr bl d s o.t o.x o.m o.n o.a o.ss o.ms o.val
theorem StA.keep2{nb fr:Nat}(h:StA Y w j c p st nb K fr bl d s)(hb:But X w w')(hX:∀k,k<w.heap.size->X k->Y k->False):StA Y w' j c p st nb K fr bl d s:=by
 obtain⟨Z,h1,h2,h3,h4,h5⟩:=h
 exact⟨Z,h1.but hb (fun k hk e1 e2=>hX k hk e2 (h2 k e1)),h2,h3.keep (hb.block st h3.lt (fun e=>hX st h3.lt e h5)),h4,h5⟩
theorem StM.keep2{nb fr:Nat}{t x m n:Nat}{a:Nat->Option Wr}{ss:List Sp}{ms:List Mr}{val:Nat->List Int}(h:StM Y w j c p st nb K fr bl d s t x m n a ss ms val)(hb:But X w w')(hX:∀k,k<w.heap.size->X k->Y k->False):StM Y w' j c p st nb K fr bl d s t x m n a ss ms val:=by
 obtain⟨Z,Zw,sv,mv,q1,q2,q3,q4,q5,q6,q8,q9,q10⟩:=h
 exact⟨Z,Zw,sv,mv,q1.but hb (fun k hk e1 e2=>hX k hk e2 (q5 k e1)),q2.but hb (fun k hk e1 e2=>hX k hk e2 (q6 k e1).1),q3.keep (hb.block t q3.lt (fun e=>hX t q3.lt e q9.2.2)),q4.keep (hb.block st q4.lt (fun e=>hX st q4.lt e q10.2.2)),q5,q6,q8,q9,q10⟩
theorem StO.keep{nb fr:Nat}{o:Option OT}(h:StO Y w j c p st nb K fr bl d s o)(hb:But X w w')(hX:∀k,k<w.heap.size->X k->Y k->False):StO Y w' j c p st nb K fr bl d s o:=by
 cases o with
 | none=>exact StA.keep2 h hb hX
 | some o=>exact StM.keep2 h hb hX
theorem StO.below{nb fr:Nat}{o:Option OT}(h:StO Y w j c p st nb K fr bl d s o)(hb:Below w.heap.size w w'):StO Y w' j c p st nb K fr bl d s o:=h.keep (X:=fun _=>False) (But.of_below hb) (fun _ _ q _=>q)
theorem StO.jq{nb fr:Nat}{o:Option OT}(h:StO Y w j c p st nb K fr bl d s o):∃Z,Jq Z w j c p 16 nb K fr bl d s/\(∀k,Z k->Y k)/\Stb w st j (.pointer (o.map fun q=>⟨q.t,0,none⟩))/\¬Z st/\Y st:=by
 cases o with
 | none=>
  obtain⟨Z,h1,h2,h3,h4,h5⟩:=h
  exact⟨Z,h1,h2,h3,h4,h5⟩
 | some o=>
  obtain⟨Z,Zw,sv,mv,q1,q2,q3,q4,q5,q6,q8,q9,q10⟩:=h
  exact⟨Z,q1,q5,q4,q10.1,q10.2.2⟩
theorem StO.cut{nb fr:Nat}{o:Option OT}(h:StO Y w j c p st nb K fr bl d s o):StO (fun k=>Y k/\k<w.heap.size) w j c p st nb K fr bl d s o:=by
 cases o with
 | none=>
  obtain⟨Z,h1,h2,h3,h4,h5⟩:=h
  exact⟨fun k=>Z k/\k<w.heap.size,h1.cut,fun k q=>⟨h2 k q.1,q.2⟩,h3,fun q=>h4 q.1,h5,h3.lt⟩
 | some o=>exact StM.cut h
theorem StO.open{nb fr:Nat}{o:Option OT}(h:StO Y w j c p st nb K fr bl d s o):∃Z,Jq Z w j c p 16 nb K fr bl d s/\∀w' K' d' s',(∃Z',Jq Z' w' j c p 16 nb K' fr bl d' s'/\Gr Z Z' w)->But Z w w'->∃Y',StO Y' w' j c p st nb K' fr bl d' s' o/\(∀k,Y' k->k<w'.heap.size)/\Gr Y Y' w/\But Y w w':=by
 cases o with
 | none=>
  obtain⟨Z,h1,h2,h3,h4,h5⟩:=h
  refine⟨Z,h1,fun w' K' d' s' H q3=>?_⟩
  obtain⟨Z',q1,q2⟩:=H
  have hs:=q3.size
  exact⟨growZ Y Z' w w',⟨fun k=>Z' k/\k<w'.heap.size,q1.cut,fun k e=>growZ.of h2 q2 e.1 e.2,h3.keep (q3.block st h3.lt h4),fun e=>h4 (q2 st h3.lt e.1),.inl ⟨h5,h3.lt⟩⟩,fun k q=>by rcases q with q | q <;> omega,growZ.gr _ _ _ _,q3.mono (fun k _ e=>h2 k e)⟩
 | some o=>
  obtain⟨Z,Zw,sv,mv,q1,q2,q3,q4,q5,q6,q8,q9,q10⟩:=h
  refine⟨Z,q1,fun w' K' d' s' H r3=>?_⟩
  obtain⟨Z',r1,r2⟩:=H
  have hs:=r3.size
  exact StM.step (Z:=Z) (Zw:=Zw) (Z':=fun k=>Z' k/\k<w'.heap.size) (Zw':=fun k=>Zw k/\k<w.heap.size) q3 q4 q5 q6 q8 q9 q10 r1.cut (q2.cut.but r3 (fun k _ e=>(q6 k e.1).2)) (fun k hk e=>r2 k hk e.1) (fun k _ e=>e.1) (fun k e e2=>(q6 k e.1).2 (r2 k e.2 e2.1)) (fun k e=>e.2) (fun k e=>Nat.lt_of_lt_of_le e.2 hs) (r3.mono (fun k _ e=>.inl e))
open Go.RowKit Go.Deep
theorem StA.begin2{nb fr:Nat}(h:StA Y w j c p st nb K fr bl d s)(hon:d.off=false) :
  Calls Tryz.prog 9 #[.pointer (some ⟨st,0,none⟩)] w fun e w'=>∃t x m Y',e=.returned (.tuple #[.pointer (some ⟨t,0,none⟩),.int .i64 0])/\StM Y' w' j c p st nb K fr bl d s t x m 0 (fun _=>none) [] [] (fun _=>[])/\w.heap.size<=t/\(∀k,Y' k->k<w'.heap.size)/\Gr Y Y' w/\But Y w w':=by
 obtain⟨Z,h1,h2,h3,h4,h5⟩:=h
 refine Calls.mono (begin_any h1 hon h3) ?_
 rintro e w' ⟨t,x,m,rfl,⟨q1,q2,q3,q4,q5,q6⟩,r1,r2,r3,r4⟩
 have hsl:=h3.lt
 have hs:=r4.size
 have hxm:x≠m:=by
  intro e
  have hb:=r3.blk
  obtain⟨es,ck,hm,_⟩:=r3.mp
  rw[e,hm]at hb
  cases hb
 have hT:StT (grow Y w w') w' j c p st nb K fr bl d s t x m 0 (fun _=>none) :=
  ⟨fun k=>Z k/\k<w.heap.size,fun k=>k=x\/k=m,_,_,h1.cut.but r4 (fun k _ e1 e2=>h4 (e2 ▸ e1.1)),r3,r1,r2,fun k q=>.inl ⟨h2 k q.1,q.2⟩,fun k q=>⟨.inr (by omega),fun e=>by omega⟩,(fun z g cp k e=>by cases e),⟨hxm,by omega⟩,⟨fun e=>by omega,fun e=>by omega,.inr (by omega)⟩,⟨fun e=>h4 e.1,fun e=>by omega,.inl ⟨h5,hsl⟩⟩⟩
 exact⟨t,x,m,grow Y w w',rfl,hT.stm,q1,fun k q=>by rcases q with q | q <;> omega,grow.gr Y w w',r4.mono (fun k _ e=>e ▸ h5)⟩
theorem StM.abort2{nb fr:Nat}{t x m n:Nat}{a:Nat->Option Wr}{ss:List Sp}{ms:List Mr}{val:Nat->List Int}(h:StM Y w j c p st nb K fr bl d s t x m n a ss ms val)(hon:d.off=false) :
  Calls Tryz.prog 14 #[.pointer (some ⟨t,0,none⟩)] w fun e w'=>∃Y',e=.returned (.int .i64 0)/\StA Y' w' j c p st nb K fr bl d s/\Txb w' t j .nilIface st (.pointer none)/\¬Y' t/\(∀k,Y' k->k<w'.heap.size)/\Gr Y Y' w/\But Y w w':=by
 obtain⟨Z,Zw,sv,mv,q1,q2,q3,q4,q5,q6,q8,q9,q10⟩:=h
 refine Calls.mono (abort_any q1 hon q3 q4 q8) ?_
 rintro e w' ⟨rfl,r1,r2,r3⟩
 have hsl:=q4.lt
 have hs:=r3.size
 refine⟨fun k=>grow Y w w' k/\k≠t,rfl,⟨fun k=>Z k/\k<w.heap.size,q1.cut.but r3 (fun k _ e1 e2=>e2.elim (fun q=>q10.1 (q ▸ e1.1)) (fun q=>q9.1 (q ▸ e1.1))),fun k q=>⟨.inl ⟨q5 k q.1,q.2⟩,fun e=>q9.1 (e ▸ q.1)⟩,r2,fun e=>q10.1 e.1,.inl ⟨q10.2.2,hsl⟩,q8⟩,r1,fun e=>e.2 rfl,fun k q=>by rcases q.1 with q | q <;> omega,fun k hk q=>grow.gr Y w w' k hk q.1,r3.mono (fun k _ e=>e.elim (fun q=>q ▸ q10.2.2) (fun q=>q ▸ q9.2.2))⟩
theorem StM.commit2{nb fr:Nat}{t x m n:Nat}{a:Nat->Option Wr}{ss:List Sp}{ms:List Mr}{val:Nat->List Int}(h:StM Y w j c p st nb K fr bl d s t x m n a ss ms val){home:Nat->List Int}(ho:On d s nb fr bl lo home Ts)(hfu:d.fu=-1)(hlo:16<=bl)(hfit:fr+bl<=nb)(hnb:nb<=524288)(hsq:Ts.length<1099511627776)(hk:(homeKeys nb (LofA a val)).length<=bl / 2-4)(hh:∀y,y∈homeKeys nb (LofA a val)->homeC nb fr bl (y:Int)=0) :
  Calls Tryz.prog 13 #[.pointer (some ⟨t,0,none⟩)] w fun e w'=>∃Y' d' s' Ts',e=.returned (.int .i64 0)/\StA Y' w' j c p st nb K fr bl d' s'/\d'.fu=-1/\On d' s' nb fr bl lo home Ts'/\Ts'.length<=Ts.length+1/\(∀y,y<nb->contT home Ts' Ts'.length y=(LofA a val y).getD (contT home Ts Ts.length y))/\Txb w' t j .nilIface st (.pointer none)/\¬Y' t/\(∀k,Y' k->k<w'.heap.size)/\Gr Y Y' w/\But Y w w':=by
 obtain⟨Z,Zw,sv,mv,q1,q2,q3,q4,q5,q6,q8,q9,q10⟩:=h
 obtain⟨D,hWq⟩:=q2.wq
 have hpl:=ho.puts hlo hfit hnb
 refine Calls.mono (commit_any q1 (ho.jn hlo hfit hnb) hWq (fun k _ e=>(q6 k e).2) ho.on (by omega) hnb q3 q4 q8 q9.1 q10.1 q9.2.1 q10.2.1) ?_
 intro e w' H
 have hT:=H.txb q9.1
 obtain⟨r1,r2,r3,Z',d',s',Ts',r4,r5,r6,r7,r8,r9⟩:=H.on q1 ho hfu hlo hfit hnb hsq hk hh q9.1 q10.1
 have hs:=r3.size
 refine⟨fun k=>growZ Y Z' w w' k/\k≠t,d',s',Ts',r1,⟨fun k=>Z' k/\k<w'.heap.size,r4.cut,fun k e=>⟨growZ.of q5 r5 e.1 e.2,fun q=>q9.1 (r5 t q3.lt (q ▸ e.1))⟩,r2,fun e=>q10.1 (r5 st q4.lt e.1),.inl ⟨q10.2.2,q4.lt⟩,q8⟩,r6,r7,r8,r9,hT,fun e=>e.2 rfl,fun k q=>by rcases q.1 with q | q <;> omega,fun k hk q=>growZ.gr _ _ _ _ k hk q.1,r3.mono (fun k _ e=>?_)⟩
 rcases e with e | e | e
 ·exact q5 k e
 ·exact e ▸ q10.2.2
 ·exact e ▸ q9.2.2
theorem sflush_on{room nb fr:Nat}(h:Jq Z w j c p room nb K fr bl d s)(hon:d.off=false)(hl:d.puts.length<=1073741824)(hs:Stb w st j tv) :
  Calls Tryz.prog 59 #[.pointer (some ⟨st,0,none⟩)] w (Did Z w j c p room nb K fr bl d [.fl] s):=by
 refine poz fun PO hPO=>?_
 have HA:=hid (sask_any h hs)
 rw[hon]at HA
 have HF:Hid (∀w1,Below w.heap.size w w1->w1.cell? ⟨st,0,none⟩=some (.pointer (some ⟨j,0,none⟩))/\Calls Tryz.prog 101 #[.pointer (some ⟨j,0,none⟩)] w1 fun e w'=>∃v,e=.returned (.int .i64 v)/\PO (.returned (.int .i64 v)) w'):=fun w1 b1=>by
  refine⟨(b1.cell (p:=⟨st,0,none⟩) hs.lt).trans (hs.cell 0),?_⟩
  refine Calls.mono (Flush_on (h.cut.below b1) hon hl) ?_
  rintro e w' ⟨rfl,⟨Z',s',r1,r2,r3⟩,r4⟩
  refine⟨_,rfl,?_⟩
  rw[hPO]
  exact⟨rfl,⟨Z',s',r1,r2,fun k hk e=>(r3 k (Nat.lt_of_lt_of_le hk b1.size) e).1⟩,(But.of_below b1).comp r4 (fun k _ e=>e.1)⟩
 clear h hs hPO
 go_enter Tryz.func59,Tryz.ntmps59
 go_wp2_with fail
 refine Calls.mono HA.out ?_
 rintro e w1 ⟨rfl,b1⟩
 obtain⟨c0,hc⟩:=HF.out w1 b1
 have HF1:=hid hc
 clear b1 HA HF hc
 go_wp2_with fail
 refine Calls.mono HF1.out ?_
 rintro e w3 ⟨v,rfl,q⟩
 have FIN:=hid q
 clear q HF1
 go_wp2
 exact FIN.out
open Go.RowKit Go.Deep
def askW (who:Option Bool) (off:Bool):Int:=match who with
 | none=>1
 | some b=>if off then 24 else if b then 0 else 51
theorem askW_zero(h:askW who off=0):who=some true/\off=false:=by
 unfold askW at h
 cases who with
 | none=>simp at h
 | some b=>cases off <;> cases b <;> first | exact⟨rfl,rfl⟩ | exact absurd h (by decide)
theorem home_nat{nb fr:Nat}{y:Int}(h:homeC nb fr bl y=0):∃yn:Nat,y=(yn:Int)/\yn<nb:=by
 unfold homeC at h
 split at h
 ·exact absurd h (by decide)
 ·rename_i q
  exact⟨y.toNat,by omega,by omega⟩
theorem ne_bne{c:Int}(h:c≠0):(c != 0)=true:=by simp[h]
def wrC (nb fr bl:Nat) (off:Bool) (who:Option Bool) (y:Int) (n:Nat):Int:=if askW who off≠0 then askW who off else if homeC nb fr bl y≠0 then 42 else if n≠512 then 43 else 0
def bgC (off opn:Bool):Int:=if off then 24 else if opn then 50 else 0
def PWho (w:World) (j st:Nat) (o:Option OT) (tv:Value):Option Bool->Prop
 | none=>tv=.pointer none
 | some true=>∃q,o=some q/\tv=.pointer (some ⟨q.t,0,none⟩)
 | some false=>∃t,tv=.pointer (some ⟨t,0,none⟩)/\Txb w t j .nilIface st (.pointer none)
theorem StO.ask{nb fr:Nat}{o:Option OT}(h:StO Y w j c p st nb K fr bl d s o)(hw:PWho w j st o tv who):Calls Tryz.prog 40 #[tv] w fun e w'=>e=.returned (.int .i64 (askW who d.off))/\Below w.heap.size w w':=by
 cases who with
 | none=>
  obtain rfl:=hw
  exact task_nil w
 | some b=>
  obtain⟨Z,hJ,_,hS,_⟩:=h.jq
  cases b with
  | true=>
   obtain⟨q,rfl,rfl⟩:=hw
   obtain⟨_,_,_,_,q1,_,q3,q4,_⟩:=h
   cases ho:d.off with
   | true=>exact task_off q1 ho q3
   | false=>exact task_open q1 ho q3 q4
  | false=>
   obtain⟨t,rfl,ht⟩:=hw
   cases ho:d.off with
   | true=>exact task_off hJ ho ht
   | false=>
    cases o with
    | none=>exact task_over0 hJ ho ht hS
    | some q=>
     obtain⟨_,_,_,_,_,_,q3,_⟩:=h
     refine task_over1 hJ ho ht hS q3 (fun e=>?_)
     unfold Txb at ht q3
     rw[e,ht]at q3
     injection q3 with q3
     injection q3 with q3
     simp at q3
theorem StO.askB{nb fr:Nat}{o:Option OT}(h:StO Y w j c p st nb K fr bl d s o)(hw:PWho w j st o tv who):∀w',Below w.heap.size w w'->Calls Tryz.prog 40 #[tv] w' fun e w2=>e=.returned (.int .i64 (askW who d.off))/\Below w'.heap.size w' w2:=fun w' b=>by
 refine (h.below b).ask (who:=who) ?_
 cases who with
 | none=>exact hw
 | some b'=>
  cases b' with
  | true=>exact hw
  | false=>
   obtain⟨t,e,ht⟩:=hw
   exact⟨t,e,ht.keep (b.block t ht.lt)⟩
theorem StO.open2{nb fr:Nat}{o:Option OT}(h:StO Y w j c p st nb K fr bl d s o):∃Z,Jq Z w j c p 16 nb K fr bl d s/\∀w' K' d' s' Z',Jq Z' w' j c p 16 nb K' fr bl d' s'->Gr Z Z' w->But Z w w'->∃Y',StO Y' w' j c p st nb K' fr bl d' s' o/\(∀g,w.heap.size<=g->¬Z' g->¬Y' g)/\(∀k,Y' k->k<w'.heap.size)/\Gr Y Y' w/\But Y w w':=by
 cases o with
 | none=>
  obtain⟨Z,h1,h2,h3,h4,h5⟩:=h
  refine⟨Z,h1,fun w' K' d' s' Z' q1 q2 q3=>?_⟩
  have hs:=q3.size
  exact⟨growZ Y Z' w w',⟨fun k=>Z' k/\k<w'.heap.size,q1.cut,fun k e=>growZ.of h2 q2 e.1 e.2,h3.keep (q3.block st h3.lt h4),fun e=>h4 (q2 st h3.lt e.1),.inl ⟨h5,h3.lt⟩⟩,fun g hg n q=>Or.elim q (fun e=>absurd e.2 (by omega)) (fun e=>n e.1),fun k q=>by rcases q with q | q <;> omega,growZ.gr _ _ _ _,q3.mono (fun k _ e=>h2 k e)⟩
 | some o=>
  obtain⟨Z,Zw,sv,mv,q1,q2,q3,q4,q5,q6,q8,q9,q10⟩:=h
  refine⟨Z,q1,fun w' K' d' s' Z' r1 r2 r3=>?_⟩
  have hs:=r3.size
  have ht:=q3.lt
  have hst:=q4.lt
  refine⟨growZ Y Z' w w',⟨fun k=>Z' k/\k<w'.heap.size,fun k=>Zw k/\k<w.heap.size,sv,mv,r1.cut,q2.cut.but r3 (fun k _ e=>(q6 k e.1).2),q3.keep (r3.block _ ht q9.1),q4.keep (r3.block st hst q10.1),fun k e=>growZ.of q5 r2 e.1 e.2,fun k e=>⟨.inl ⟨(q6 k e.1).1,e.2⟩,fun e2=>(q6 k e.1).2 (r2 k e.2 e2.1)⟩,q8,⟨fun e=>q9.1 (r2 _ ht e.1),fun e=>q9.2.1 e.1,.inl ⟨q9.2.2,ht⟩⟩,⟨fun e=>q10.1 (r2 st hst e.1),fun e=>q10.2.1 e.1,.inl ⟨q10.2.2,hst⟩⟩⟩,fun g hg n q=>Or.elim q (fun e=>absurd e.2 (by omega)) (fun e=>n e.1),fun k q=>by rcases q with q | q <;> omega,growZ.gr _ _ _ _,r3.mono (fun k _ e=>q5 k e)⟩
theorem StO.low{nb fr:Nat}{o:Option OT}(h:StO Y w j c p st nb K fr bl d s o)(b:Below w.heap.size w w'):∃Y',StO Y' w' j c p st nb (K+1) fr bl d s o/\(∀g,w.heap.size<=g->¬Y' g)/\(∀k,Y' k->k<w'.heap.size)/\Gr Y Y' w/\But Y w w':=by
 obtain⟨Z,hJ,hcl⟩:=h.open2
 obtain⟨Y',q1,q2,q3⟩:=hcl w' (K+1) d s (fun k=>Z k/\k<w.heap.size) ((hJ.cut.below b).mono (fun _ q=>q) (by omega)) (fun k _ q=>q.1) (But.of_below b)
 exact⟨Y',q1,fun g hg=>q2 g hg (fun e=>by omega),q3⟩
theorem StO.write{nb fr:Nat}{o:Option OT}(h:StO Y w j c p st nb K fr bl d s o)(h1:fr+bl<=nb)(hl:d.puts.length<=1073741824)(hK:K<4611686018427387904)(hnb:nb<=524288)(hn:∀q,o=some q->q.n<=1073741823/\q.ss.length<=1073741823)(hw:PWho w j st o tv who)(y:Int)(hy1:-9223372036854775808<=y)(hy2:y<=9223372036854775807)(xa:Option Addr)(xn xc:Nat)(zs:List Int)(hR:RdN Y w xa xn zs) :
  Calls Tryz.prog 52 #[tv,.int .i64 y,.slice xa xn xc] w fun e w'=>∃Y' o',e=.returned (.int .i64 (wrC nb fr bl d.off who y xn))/\StO Y' w' j c p st nb (K+1) fr bl d s o'/\(wrC nb fr bl d.off who y xn≠0->o'=o)/\(wrC nb fr bl d.off who y xn=0->∃q a' ss' val',o=some q/\o'=some { q with n:=q.n+1,a:=a',ss:=ss',val:=val' }/\LofA a' val'=putL (LofA q.a q.val) y.toNat zs/\(∀(i p:Nat) (b:Nat->Option Wr),q.ms[i]?=some (p,b)->LofA b val'=LofA b q.val)/\ss'.length<=q.ss.length+1)/\(∀k,Y' k->k<w'.heap.size)/\Gr Y Y' w/\But Y w w':=by
 have HS:=h.ask hw
 unfold wrC
 by_cases hc:askW who d.off=0
 ·obtain⟨rfl,ho⟩:=askW_zero hc
  obtain⟨q,rfl,rfl⟩:=hw
  have h0:=h
  obtain⟨Z,Zw,sv,mv,q1,q2,q3,q4,q5,q6,q8,q9,q10⟩:=h0
  obtain⟨D,hWq⟩:=q2.wq
  by_cases hh:homeC nb fr bl y=0
  ·obtain⟨yn,rfl,hyn⟩:=home_nat hh
   by_cases hx:xn=512
   ·subst hx
    obtain⟨ad,rfl⟩:∃ad,xa=some ad:=by
     rcases hR.2.2 with q0 | ⟨b,off,e,_⟩
     ·exact absurd q0 (by decide)
     ·exact⟨_,e⟩
    refine Calls.mono (StM.write h (hn q rfl).1 (hn q rfl).2 h1 ho hl hK hnb yn hyn hh ad xc zs (fun w' b=>(hR.but b).rd)) ?_
    rintro e w' ⟨rfl,Y',a',ss',val',r1,r2,r3,r4,r5,r6,r7⟩
    exact⟨Y',some { q with n:=q.n+1,a:=a',ss:=ss',val:=val' },by simp[hc,hh],r1,fun e=>absurd (by simp[hc,hh]) e,fun _=>⟨q,a',ss',val',rfl,rfl,r2,r3,r4⟩,r5,r6,r7⟩
   ·obtain⟨Z0,hJ,hcl⟩:=h.open2
    refine Calls.mono (twrite_len hJ hWq h1 ho hl hK hnb yn hyn hh q3 q4 xa xn xc hx) ?_
    rintro e w' ⟨rfl,⟨Z',r1,r2⟩,r3⟩
    obtain⟨Y',s1,_,s3⟩:=hcl w' _ _ _ Z' r1 r2 r3
    refine⟨Y',some q,by simp[hc,hh,hx],s1,fun _=>rfl,fun e=>?_,s3⟩
    simp[hc,hh,hx]at e
  ·refine Calls.mono (twrite_far q1 hWq h1 ho y hy1 hy2 hh q3 q4 _) ?_
   rintro e w' ⟨rfl,b⟩
   obtain⟨Y',r1,_,r3⟩:=h.low b
   refine⟨Y',some q,by simp[hc,hh],r1,fun _=>rfl,fun e=>?_,r3⟩
   simp[hc,hh]at e
 ·refine Calls.mono (twrite_no HS (ne_bne hc) y _) ?_
  rintro e w' ⟨rfl,b⟩
  obtain⟨Y',r1,_,r3⟩:=h.low b
  refine⟨Y',o,by simp[hc],r1,fun _=>rfl,fun e=>?_,r3⟩
  simp[hc]at e
open Go.RowKit Go.Deep
theorem StO.abort{nb fr:Nat}{o:Option OT}(h:StO Y w j c p st nb K fr bl d s o)(hw:PWho w j st o tv who) :
  Calls Tryz.prog 14 #[tv] w fun e w'=>∃Y' o',e=.returned (.int .i64 (askW who d.off))/\StO Y' w' j c p st nb K fr bl d s o'/\(askW who d.off≠0->o'=o)/\(askW who d.off=0->∃q,o=some q/\o'=none/\Txb w' q.t j .nilIface st (.pointer none)/\¬Y' q.t)/\(∀k,Y' k->k<w'.heap.size)/\Gr Y Y' w/\But Y w w':=by
 have HS:=h.ask hw
 by_cases hc:askW who d.off=0
 ·obtain⟨rfl,ho⟩:=askW_zero hc
  obtain⟨q,rfl,rfl⟩:=hw
  refine Calls.mono (StM.abort2 h ho) ?_
  rintro e w' ⟨Y',rfl,r1,r2,r3,r4⟩
  exact⟨Y',none,by rw[hc],r1,fun e=>absurd hc e,fun _=>⟨q,rfl,rfl,r2,r3⟩,r4⟩
 ·refine Calls.mono (tabort_no HS (ne_bne hc)) ?_
  rintro e w' ⟨rfl,b⟩
  exact⟨fun k=>Y k/\k<w.heap.size,o,rfl,h.cut.below b,fun _=>rfl,fun e=>absurd e hc,fun k e=>Nat.lt_of_lt_of_le e.2 b.size,fun k _ e=>e.1,But.of_below b⟩
theorem StO.begin{nb fr:Nat}{o:Option OT}(h:StO Y w j c p st nb K fr bl d s o) :
  Calls Tryz.prog 9 #[.pointer (some ⟨st,0,none⟩)] w fun e w'=>∃tv Y' o',e=.returned (.tuple #[tv,.int .i64 (bgC d.off o.isSome)])/\StO Y' w' j c p st nb K fr bl d s o'/\(bgC d.off o.isSome≠0->o'=o/\tv=.pointer none)/\(bgC d.off o.isSome=0->o=none/\∃t x m,o'=some ⟨t,x,m,0,fun _=>none,[],[],fun _=>[]⟩/\tv=.pointer (some ⟨t,0,none⟩)/\w.heap.size<=t)/\(∀k,Y' k->k<w'.heap.size)/\Gr Y Y' w/\But Y w w':=by
 obtain⟨Z,hJ,_,hS,_⟩:=h.jq
 unfold bgC
 cases ho:d.off with
 | true=>
  have HA:=sask_any hJ hS
  rw[ho]at HA
  refine Calls.mono (sbegin_no HA (by decide)) ?_
  rintro e w' ⟨rfl,b⟩
  exact⟨_,fun k=>Y k/\k<w.heap.size,o,rfl,h.cut.below b,fun _=>⟨rfl,rfl⟩,fun e=>(by simp at e),fun k e=>Nat.lt_of_lt_of_le e.2 b.size,fun k _ e=>e.1,But.of_below b⟩
 | false=>
  cases o with
  | none=>
   refine Calls.mono (StA.begin2 h ho) ?_
   rintro e w' ⟨t,x,m,Y',rfl,r1,r2,r3⟩
   exact⟨_,Y',some ⟨t,x,m,0,fun _=>none,[],[],fun _=>[]⟩,rfl,r1,fun e=>absurd rfl e,fun _=>⟨rfl,t,x,m,rfl,rfl,r2⟩,r3⟩
  | some q=>
   refine Calls.mono (sbegin_open hJ ho hS) ?_
   rintro e w' ⟨rfl,b⟩
   exact⟨_,fun k=>Y k/\k<w.heap.size,some q,rfl,h.cut.below b,fun _=>⟨rfl,rfl⟩,fun e=>(by simp at e),fun k e=>Nat.lt_of_lt_of_le e.2 b.size,fun k _ e=>e.1,But.of_below b⟩
theorem StO.owns{nb fr:Nat}{o:Option OT}(h:StO Y w j c p st nb K fr bl d s o)(hw:PWho w j st o tv who) :
  Calls Tryz.prog 93 #[.pointer (some ⟨st,0,none⟩),tv] w fun e w'=>e=.returned (.int .i64 (askW who d.off))/\Below w.heap.size w w':=by
 obtain⟨Z,hJ,_,hS,_⟩:=h.jq
 cases who with
 | none=>
  obtain rfl:=hw
  exact sowns_nil w _
 | some b=>
  have HB:=h.askB hw
  have ht:∃t fv wv,tv=.pointer (some ⟨t,0,none⟩)/\Txb w t j fv st wv:=by
   cases b with
   | true=>
    obtain⟨q,rfl,e⟩:=hw
    obtain⟨_,_,_,_,_,_,q3,_⟩:=h
    exact⟨q.t,_,_,e,q3⟩
   | false=>
    obtain⟨t,e,ht⟩:=hw
    exact⟨t,_,_,e,ht⟩
  obtain⟨t,fv,wv,rfl,ht⟩:=ht
  cases ho:d.off with
  | true=>exact sowns_off hJ ho hS _
  | false=>
   rw[ho]at HB
   exact sowns_own hJ ho hS ht HB
end Go.Proofs.YtlefjidbpjkhlaaGreat
