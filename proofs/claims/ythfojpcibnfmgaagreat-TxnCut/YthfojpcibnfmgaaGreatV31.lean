import Derived.Test.YthfojpcibnfmgaaGreatV30
import Derived.Test.YthfojpcibnfmgaaGreatV23
import Derived.Deep.RegionHeld3
import Derived.Deep.DeepCutAuto
import Derived.Test.YthfojpcibnfmgaaGreatV18
set_option maxRecDepth 100000
set_option maxHeartbeats 16000000
namespace Go.Proofs.YthfojpcibnfmgaaGreat
variable {X Y Z Z' Zw:Nat->Prop}
variable {w w':World}
variable {K M bl fr j k lo mc nb p st:Nat}
variable {d:Pd}
variable {mv sv:Value}
variable {ma:Option Addr}
variable {α:Type}
variable {Ts:List Tn}
open Go.RowKit Go.Deep
theorem homeKeys_succ(nb:Nat)(L:Nat->Option (List Int)):homeKeys (nb+1) L=homeKeys nb L++(if (L nb).isSome then [nb] else []):=by
 unfold homeKeys
 rw[List.range_succ,List.filter_append]
 congr 1
 by_cases h:(L nb).isSome=true <;> simp[h]
def putsL (nb:Nat) (L:Nat->Option (List Int)):List (Nat×List Int):=(homeKeys nb L).map (fun y=>(y,(L y).getD []))
theorem ahead_putsL(nb:Nat)(L:Nat->Option (List Int))(x:Nat):aheadP (fun _=>none) (putsL nb L) x=if x<nb then L x else none:=by
 induction nb with
 | zero=>simp[putsL,homeKeys,aheadP]
 | succ nb ih=>
  unfold putsL at ih ⊢
  rw[homeKeys_succ,List.map_append]
  cases hL:L nb with
  | none=>
   simp only[Option.isSome_none,Bool.false_eq_true,if_false,List.map_nil,List.append_nil]
   rw[ih]
   by_cases h:x<nb
   ·rw[if_pos h,if_pos (by omega)]
   ·rw[if_neg h]
    by_cases h2:x=nb
    ·rw[if_pos (by omega),h2,hL]
    ·rw[if_neg (by omega)]
  | some zs=>
   simp only[Option.isSome_some,if_true,List.map_cons,List.map_nil,hL,Option.getD_some]
   rw[aheadP_snoc]
   simp only
   by_cases h2:x=nb
   ·rw[if_pos h2,if_pos (by omega),h2,hL]
   ·rw[if_neg h2,ih]
    by_cases h:x<nb
    ·rw[if_pos h,if_pos (by omega)]
    ·rw[if_neg h,if_neg (by omega)]
theorem contT_putsL(home:Nat->List Int)(Ts:List Tn)(nb:Nat)(L:Nat->Option (List Int)){x:Nat}(hx:x<nb):contT home (Ts++[putsL nb L]) (Ts++[putsL nb L]).length x=(L x).getD (contT home Ts Ts.length x):=by
 unfold contT
 rw[List.take_of_length_le (Nat.le_refl _),List.take_of_length_le (Nat.le_refl _),<- after_append]
 show (aheadP (fun _=>none) ([putsL nb L]:List Tn).flatten x).getD (after home Ts x)=_
 rw[show ([putsL nb L]:List Tn).flatten=putsL nb L by simp,ahead_putsL,if_pos hx]
theorem standP_le(ps:List Pm):(standP ps).length<=ps.length:=by
 suffices H:∀(ps S:List Pm),(ps.foldl standStep S).length<=S.length+ps.length by
  have:=H ps []
  simpa [standP] using this
 intro ps
 induction ps with
 | nil=>intro S;simp
 | cons p ps ih=>
  intro S
  have h1:=ih (standStep S p)
  have h2:(standStep S p).length<=S.length+1:=by
   unfold standStep
   split <;> simp
  simp only[List.foldl_cons,List.length_cons]
  omega
open Go.RowKit Go.Deep
def grow (Y:Nat->Prop) (w w':World) (k:Nat):Prop:=(Y k/\k<w.heap.size)\/(w.heap.size<=k/\k<w'.heap.size)
theorem grow.gr(Y:Nat->Prop)(w w':World):Gr Y (grow Y w w') w:=fun k hk q=>by
 rcases q with q | q
 ·exact q.1
 ·omega
def StA (Y:Nat->Prop) (w:World) (j c p st nb K fr bl:Nat) (d:Pd) (s:Js):Prop :=
 ∃Z,Jq Z w j c p 4 nb K fr bl d s/\(∀k,Z k->Y k)/\Stb w st j (.pointer none)/\¬Z st/\Y st
def StT (Y:Nat->Prop) (w:World) (j c p st nb K fr bl:Nat) (d:Pd) (s:Js) (t x m n:Nat) (L:Nat->Option (List Int)):Prop :=
 ∃Z Zw D a,Jq Z w j c p 4 nb K fr bl d s/\Wq Zw w x j m n nb fr bl D a (.slice none 0 0) (.slice none 0 0) L/\Txb w t j (.iface 122 (.pointer (some ⟨x,0,none⟩))) st (.pointer (some ⟨x,0,none⟩))/\Stb w st j (.pointer (some ⟨t,0,none⟩))/\(∀k,Z k->Y k)/\(∀k,Zw k->Y k/\¬Z k)/\(∀z g cp k,a z=some (g,cp,k)->g≠m)/\(x≠m/\st≠t)/\(¬Z t/\¬Zw t/\Y t)/\(¬Z st/\¬Zw st/\Y st)
open Go.RowKit Go.Deep
def growZ (Y Z:Nat->Prop) (w w':World) (k:Nat):Prop:=(Y k/\k<w.heap.size)\/(Z k/\w.heap.size<=k/\k<w'.heap.size)
theorem growZ.gr(Y Z:Nat->Prop)(w w':World):Gr Y (growZ Y Z w w') w:=fun k hk q=>by
 rcases q with q | q
 ·exact q.1
 ·omega
theorem growZ.of(hz:∀k,Z k->Y k)(hg:Gr Z Z' w)(hk:Z' k)(hl:k<w'.heap.size):growZ Y Z' w w' k:=by
 rcases Nat.lt_or_ge k w.heap.size with q | q
 ·exact .inl ⟨hz k (hg k q hk),q⟩
 ·exact .inr ⟨hk,q,hl⟩
open Go.RowKit Go.Deep
open Go.RowKit Go.Deep
def StM (Y:Nat->Prop) (w:World) (j c p st nb K fr bl:Nat) (d:Pd) (s:Js) (t x m n:Nat) (a:Nat->Option Wr) (ss:List Sp) (ms:List Mr) (val:Nat->List Int):Prop :=
 ∃Z Zw sv mv,Jq Z w j c p 4 nb K fr bl d s/\Wm Zw w x j m n nb fr bl a sv mv ss ms val/\Txb w t j (.iface 122 (.pointer (some ⟨x,0,none⟩))) st (.pointer (some ⟨x,0,none⟩))/\Stb w st j (.pointer (some ⟨t,0,none⟩))/\(∀k,Z k->Y k)/\(∀k,Zw k->Y k/\¬Z k)/\st≠t/\(¬Z t/\¬Zw t/\Y t)/\(¬Z st/\¬Zw st/\Y st)
theorem StM.step{Zw':Nat->Prop}{c:Nat}{s:Js}{t x m n:Nat}{a:Nat->Option Wr}{ss:List Sp}{ms:List Mr}{val:Nat->List Int}(q3:Txb w t j (.iface 122 (.pointer (some ⟨x,0,none⟩))) st (.pointer (some ⟨x,0,none⟩)))(q4:Stb w st j (.pointer (some ⟨t,0,none⟩)))(q5:∀k,Z k->Y k)(q6:∀k,Zw k->Y k/\¬Z k)(q8:st≠t)(q9:¬Z t/\¬Zw t/\Y t)(q10:¬Z st/\¬Zw st/\Y st)(hJ:Jq Z' w' j c p 4 nb K fr bl d s)(hW:Wm Zw' w' x j m n nb fr bl a sv mv ss ms val)(gZ:Gr Z Z' w)(gW:Gr Zw Zw' w)(hd:∀k,Zw' k->¬Z' k)(lZ:∀k,Z' k->k<w'.heap.size)(lW:∀k,Zw' k->k<w'.heap.size)(hb:But (fun k=>Z k\/Zw k) w w') :
  ∃Y',StM Y' w' j c p st nb K fr bl d s t x m n a ss ms val/\(∀k,Y' k->k<w'.heap.size)/\Gr Y Y' w/\But Y w w':=by
 have hs:=hb.size
 have ht:=q3.lt
 have hst:=q4.lt
 refine⟨growZ Y (fun k=>Z' k\/Zw' k) w w',⟨Z',Zw',sv,mv,hJ,hW,q3.keep (hb.block t ht (fun e=>e.elim q9.1 q9.2.1)),q4.keep (hb.block st hst (fun e=>e.elim q10.1 q10.2.1)),fun k e=>?_,fun k e=>⟨?_,hd k e⟩,q8,⟨fun e=>q9.1 (gZ t ht e),fun e=>q9.2.1 (gW t ht e),.inl ⟨q9.2.2,ht⟩⟩,⟨fun e=>q10.1 (gZ st hst e),fun e=>q10.2.1 (gW st hst e),.inl ⟨q10.2.2,hst⟩⟩⟩,fun k q=>by rcases q with q | q <;> omega,growZ.gr _ _ _ _,hb.mono (fun k _ e=>e.elim (q5 k) (fun e=>(q6 k e).1))⟩
 ·rcases Nat.lt_or_ge k w.heap.size with q | q
  ·exact .inl ⟨q5 k (gZ k q e),q⟩
  ·exact .inr ⟨.inl e,q,lZ k e⟩
 ·rcases Nat.lt_or_ge k w.heap.size with q | q
  ·exact .inl ⟨(q6 k (gW k q e)).1,q⟩
  ·exact .inr ⟨.inr e,q,lW k e⟩
theorem StT.stm{c:Nat}{s:Js}{t x m n:Nat}(h:StT Y w j c p st nb K fr bl d s t x m n (fun _=>none)):StM Y w j c p st nb K fr bl d s t x m n (fun _=>none) [] [] (fun _=>[]):=by
 obtain⟨Z,Zw,D,a,q1,q2,q3,q4,q5,q6,q7,q8,q9,q10⟩:=h
 have ha:a=fun _=>none:=by
  funext y
  cases e:a y with
  | none=>rfl
  | some r=>
   obtain⟨zs,e1,_⟩:=q2.dat y r.1 r.2.1 r.2.2 e
   cases e1
 subst ha
 refine⟨Z,Zw,.slice none 0 0,.slice none 0 0,q1,⟨q2.blk,⟨D,q2.mp,q2.am⟩,⟨rfl,.inl ⟨rfl,rfl⟩⟩,⟨rfl,.inl ⟨rfl,rfl⟩⟩,fun y r q=>?_,fun s hs=>by simp at hs,Mk.nil,q2.zx,q2.zm,fun k e=>by simp[Value.ownBlock]at e,fun k e=>by simp[Value.ownBlock]at e⟩,q3,q4,q5,q6,q8.2,q9,q10⟩
 rcases q with q | ⟨i,pp,b,q,_⟩
 ·cases q
 ·simp at q
theorem StM.mark{c:Nat}{s:Js}{t x m n:Nat}{a:Nat->Option Wr}{ss:List Sp}{ms:List Mr}{val:Nat->List Int}(h:StM Y w j c p st nb K fr bl d s t x m n a ss ms val)(hon:d.off=false)(hM:ms.length<=1073741823) :
  Calls Tryz.prog 29 #[.pointer (some ⟨t,0,none⟩)] w fun e w'=>e=.returned (.tuple #[.int .i64 (ms.length:Int),.int .i64 0])/\∃Y',StM Y' w' j c p st nb K fr bl d s t x m n a ss (ms++[(ss.length,a)]) val/\(∀k,Y' k->k<w'.heap.size)/\Gr Y Y' w/\But Y w w':=by
 obtain⟨PO,hPO⟩:∃PO:Ending->World->Prop,PO=fun e w'=>e=.returned (.tuple #[.int .i64 (ms.length:Int),.int .i64 0])/\∃Y',StM Y' w' j c p st nb K fr bl d s t x m n a ss (ms++[(ss.length,a)]) val/\(∀k,Y' k->k<w'.heap.size)/\Gr Y Y' w/\But Y w w':=⟨_,rfl⟩
 rw[<- hPO]
 obtain⟨Z,Zw,sv,mv,q1,q2,q3,q4,q5,q6,q8,q9,q10⟩:=h
 have HA:=hid (task_open q1 hon q3 q4)
 have HM:Hid (∀w1,Below w.heap.size w w1->w1.cell? ⟨t,3,none⟩=some (.pointer (some ⟨x,0,none⟩))/\Calls Tryz.prog 63 #[.pointer (some ⟨x,0,none⟩)] w1 fun e w'=>e=.returned (.int .i64 (ms.length:Int))/\PO (.returned (.tuple #[.int .i64 (ms.length:Int),.int .i64 0])) w'):=fun w1 b1=>by
  have s1:=b1.size
  have hW1:Wm (fun k=>Zw k/\k<w.heap.size) w1 x j m n nb fr bl a sv mv ss ms val:=q2.keepZ (fun k _ hk=>b1.block k hk) (fun k q hk=>⟨q,hk⟩)
  refine⟨(b1.cell (p:=⟨t,3,none⟩) q3.lt).trans (q3.cell 3),Calls.mono (hW1.mark hM) ?_⟩
  rintro e w' ⟨rfl,mv',Zw',r1,r2,r3,r4⟩
  refine⟨rfl,?_⟩
  rw[hPO]
  have s4:=r4.size
  refine⟨rfl,StM.step q3 q4 q5 q6 q8 q9 q10 ((q1.cut.below b1).but r4 (fun k _ e1 e2=>(q6 k e2.1).2 e1.1)) r1 (fun k hk e=>e.1) (fun k hk e=>(r3 k (by omega) e).1) (fun k e e2=>(q6 k (r3 k (by omega) e).1).2 e2.1) (fun k e=>by omega) r2 ((But.of_below b1 (X:=fun k=>Z k\/Zw k)).comp r4 (fun k _ e=>.inr e.1))⟩
 clear q1 q2 q3 q4 hPO q5 q6 q8 q9 q10
 go_enter Tryz.func29,Tryz.ntmps29
 go_wp2_with fail
 refine Calls.mono HA.out ?_
 rintro e w1 ⟨rfl,b1⟩
 obtain⟨k3,hM1⟩:=HM.out w1 b1
 have HM1:=hid hM1
 clear b1 HA HM hM1
 go_wp2_with fail
 refine Calls.mono HM1.out ?_
 rintro e w3 ⟨rfl,q⟩
 have FIN:=hid q
 clear q HM1
 go_wp2
 exact FIN.out
theorem hasMark_any{x m:Nat}(hx:Xb w x j m sv (.slice ma M mc))(k:Nat)(b:Bool)(hb:b=decide (k<M))(w0:World)(hw:w0=w) :
  Calls Tryz.prog 66 #[.pointer (some ⟨x,0,none⟩),.int .i64 (k:Int)] w fun e w'=>e=.returned (.bool b)/\w'=w0:=by
 have x3:=hx.cell 3
 simp at x3
 have hk0:(0:Int)<=(k:Int):=by omega
 by_cases hk:k<M
 ·have hk':(k:Int)<(M:Int):=by omega
  have hb':b=true:=by rw[hb];simp[hk]
  subst hb'
  have HW:=hid hw
  clear hb hx hw
  go_enter Tryz.func66,Tryz.ntmps66
  go_wp2
  go_ret
  exact⟨rfl,HW.out.symm⟩
 ·have hk':¬(k:Int)<(M:Int):=by omega
  have hb':b=false:=by rw[hb];simp[hk]
  subst hb'
  have HW:=hid hw
  clear hb hx hw
  go_enter Tryz.func66,Tryz.ntmps66
  go_wp2
  go_ret
  exact⟨rfl,HW.out.symm⟩
theorem StM.back{c:Nat}{s:Js}{t x m n:Nat}{a:Nat->Option Wr}{ss:List Sp}{ms:List Mr}{val:Nat->List Int}(h:StM Y w j c p st nb K fr bl d s t x m n a ss ms val)(hon:d.off=false)(hn:n+ss.length<=1073741823)(hM:ms.length<=1073741823)(hnb:nb<=524288)(k pp:Nat)(b:Nat->Option Wr)(hk:ms[k]?=some (pp,b)) :
  Calls Tryz.prog 33 #[.pointer (some ⟨t,0,none⟩),.int .i64 (k:Int)] w fun e w'=>e=.returned (.int .i64 0)/\∃Y' n',n'+pp<=n+ss.length/\StM Y' w' j c p st nb K fr bl d s t x m n' b (ss.take pp) (ms.take (k+1)) val/\(∀k,Y' k->k<w'.heap.size)/\Gr Y Y' w/\But Y w w':=by
 obtain⟨PO,hPO⟩:∃PO:Ending->World->Prop,PO=fun e w'=>e=.returned (.int .i64 0)/\∃Y' n',n'+pp<=n+ss.length/\StM Y' w' j c p st nb K fr bl d s t x m n' b (ss.take pp) (ms.take (k+1)) val/\(∀k,Y' k->k<w'.heap.size)/\Gr Y Y' w/\But Y w w':=⟨_,rfl⟩
 rw[<- hPO]
 obtain⟨Z,Zw,sv,mv,q1,q2,q3,q4,q5,q6,q8,q9,q10⟩:=h
 have hkl:k<ms.length:=(List.getElem?_eq_some_iff.1 hk).1
 have HA:=hid (task_open q1 hon q3 q4)
 have HM:Hid (∀w1,Below w.heap.size w w1->w1.cell? ⟨t,3,none⟩=some (.pointer (some ⟨x,0,none⟩))/\(Calls Tryz.prog 66 #[.pointer (some ⟨x,0,none⟩),.int .i64 (k:Int)] w1 fun e w'=>e=.returned (.bool true)/\w'=w1)/\Calls Tryz.prog 67 #[.pointer (some ⟨x,0,none⟩),.int .i64 (k:Int)] w1 fun e w'=>e=.returned (.tuple #[])/\PO (.returned (.int .i64 0)) w'):=fun w1 b1=>by
  have s1:=b1.size
  have hW1:Wm (fun k=>Zw k/\k<w.heap.size) w1 x j m n nb fr bl a sv mv ss ms val:=q2.keepZ (fun k _ hk=>b1.block k hk) (fun k q hk=>⟨q,hk⟩)
  obtain⟨ma,mc,hmv,_⟩:=owns_slice hW1.mr
  have hx:=hW1.blk
  rw[hmv]at hx
  refine⟨(b1.cell (p:=⟨t,3,none⟩) q3.lt).trans (q3.cell 3),hasMark_any hx k true (by simp[hkl]) w1 rfl,Calls.mono (hW1.back hn hM hnb k pp b hk) ?_⟩
  rintro e w' ⟨rfl,n',sv',mv',r1,r2,r4⟩
  refine⟨rfl,?_⟩
  rw[hPO]
  have s4:=r4.size
  obtain⟨Y',u1,u2,u3,u4⟩:=StM.step q3 q4 q5 q6 q8 q9 q10 ((q1.cut.below b1).but r4 (fun k _ e1 e2=>(q6 k e2.1).2 e1.1)) r2 (fun k hk e=>e.1) (fun k hk e=>e.1.1) (fun k e e2=>(q6 k e.1.1).2 e2.1) (fun k e=>by omega) (fun k e=>by omega) ((But.of_below b1 (X:=fun k=>Z k\/Zw k)).comp r4 (fun k _ e=>.inr e.1))
  exact⟨rfl,Y',n',r1,u1,u2,u3,u4⟩
 clear q1 q2 q3 q4 hPO q5 q6 q8 q9 q10 hk
 go_enter Tryz.func33,Tryz.ntmps33
 go_wp2_with fail
 refine Calls.mono HA.out ?_
 rintro e w1 ⟨rfl,b1⟩
 obtain⟨k3,hh,hM1⟩:=HM.out w1 b1
 have HM1:=hid hM1
 have HH:=hid hh
 clear b1 HA HM hM1 hh
 go_wp2_with fail
 refine Calls.mono HH.out ?_
 rintro e w2 ⟨rfl,hw2⟩
 rw[hw2]
 clear hw2 HH
 go_wp2_with fail
 refine Calls.mono HM1.out ?_
 rintro e w3 ⟨rfl,q⟩
 have FIN:=hid q
 clear q HM1
 go_wp2
 exact FIN.out
theorem StM.backNo{c:Nat}{s:Js}{t x m n:Nat}{a:Nat->Option Wr}{ss:List Sp}{ms:List Mr}{val:Nat->List Int}(h:StM Y w j c p st nb K fr bl d s t x m n a ss ms val)(hon:d.off=false)(k:Nat)(hk:¬k<ms.length) :
  Calls Tryz.prog 33 #[.pointer (some ⟨t,0,none⟩),.int .i64 (k:Int)] w fun e w'=>e=.returned (.int .i64 52)/\Below w.heap.size w w':=by
 obtain⟨PO,hPO⟩:∃PO:Ending->World->Prop,PO=fun e w'=>e=.returned (.int .i64 52)/\Below w.heap.size w w':=⟨_,rfl⟩
 rw[<- hPO]
 obtain⟨Z,Zw,sv,mv,q1,q2,q3,q4,q5,q6,q8,q9,q10⟩:=h
 have HA:=hid (task_open q1 hon q3 q4)
 have HM:Hid (∀w1,Below w.heap.size w w1->w1.cell? ⟨t,3,none⟩=some (.pointer (some ⟨x,0,none⟩))/\(Calls Tryz.prog 66 #[.pointer (some ⟨x,0,none⟩),.int .i64 (k:Int)] w1 fun e w'=>e=.returned (.bool false)/\w'=w1)/\PO (.returned (.int .i64 52)) w1):=fun w1 b1=>by
  have hW1:Wm (fun k=>Zw k/\k<w.heap.size) w1 x j m n nb fr bl a sv mv ss ms val:=q2.keepZ (fun k _ hk=>b1.block k hk) (fun k q hk=>⟨q,hk⟩)
  obtain⟨ma,mc,hmv,_⟩:=owns_slice hW1.mr
  have hx:=hW1.blk
  rw[hmv]at hx
  refine⟨(b1.cell (p:=⟨t,3,none⟩) q3.lt).trans (q3.cell 3),hasMark_any hx k false (by simp[hk]) w1 rfl,?_⟩
  rw[hPO]
  exact⟨rfl,b1⟩
 clear q1 q2 q3 q4 hPO q5 q6 q8 q9 q10 hk
 go_enter Tryz.func33,Tryz.ntmps33
 go_wp2_with fail
 refine Calls.mono HA.out ?_
 rintro e w1 ⟨rfl,b1⟩
 obtain⟨k3,hh,hF⟩:=HM.out w1 b1
 have HH:=hid hh
 have FIN:=hid hF
 clear b1 HA HM hF hh
 go_wp2_with fail
 refine Calls.mono HH.out ?_
 rintro e w2 ⟨rfl,hw2⟩
 rw[hw2]
 clear hw2 HH
 go_wp2_with fail
 exact FIN.out
def WrM (Y:Nat->Prop) (w:World) (j c p st nb K fr bl:Nat) (d:Pd) (s:Js) (t x m n:Nat) (a:Nat->Option Wr) (ss:List Sp) (ms:List Mr) (val:Nat->List Int) (y:Nat) (zs:List Int) (w':World):Prop :=
 ∃Y' a' ss' val',StM Y' w' j c p st nb (K+1) fr bl d s t x m (n+1) a' ss' ms val'/\LofA a' val'=putL (LofA a val) y zs/\(∀(i p:Nat) (b:Nat->Option Wr),ms[i]?=some (p,b)->LofA b val'=LofA b val)/\ss'.length<=ss.length+1/\(∀k,Y' k->k<w'.heap.size)/\Gr Y Y' w/\But Y w w'
theorem StM.write{c:Nat}{s:Js}{t x m n:Nat}{a:Nat->Option Wr}{ss:List Sp}{ms:List Mr}{val:Nat->List Int}(h:StM Y w j c p st nb K fr bl d s t x m n a ss ms val)(hn:n<=1073741823)(hns:ss.length<=1073741823)(h1:fr+bl<=nb)(hon:d.off=false)(hl:d.puts.length<=1073741824)(hK:K<4611686018427387904)(hnb:nb<=524288)(y:Nat)(hy:y<nb)(hh:homeC nb fr bl (y:Int)=0)(ad:Addr)(cd:Nat)(zs:List Int)(hR:∀w',But Y w w'->Rd w'.heap.size w' (some ad) 512 zs) :
  Calls Tryz.prog 32 #[.pointer (some ⟨t,0,none⟩),.int .i64 (y:Int),.slice (some ad) 512 cd] w fun e w'=>e=.returned (.int .i64 0)/\WrM Y w j c p st nb K fr bl d s t x m n a ss ms val y zs w':=by
 obtain⟨PO,hPO⟩:∃PO:Ending->World->Prop,PO=fun e w'=>e=.returned (.int .i64 0)/\WrM Y w j c p st nb K fr bl d s t x m n a ss ms val y zs w':=⟨_,rfl⟩
 rw[<- hPO]
 obtain⟨Z,Zw,sv,mv,q1,q2,q3,q4,q5,q6,q8,q9,q10⟩:=h
 obtain⟨D,hWq⟩:=q2.wq
 have HA:=hid (task_open q1 hon q3 q4)
 have HL:Hid (∀w1,Below w.heap.size w w1->Calls Tryz.prog 61 #[.pointer (some ⟨t,0,none⟩),.int .i64 (y:Int)] w1 (RdH (fun k=>Z k/\k<w.heap.size) w1 j c p 4 nb K fr bl d s ((LofA a val y).getD (jread d s y)))):=fun w1 b1=>look_w (q1.cut.below b1) (hWq.keep (fun k _ hk=>b1.block k hk)) h1 hon hl hK hnb y hy hh ((b1.cell (p:=⟨t,1,none⟩) q3.lt).trans (q3.cell 1))
 have HP:Hid (∀w1 e w',Below w.heap.size w w1->RdH (fun k=>Z k/\k<w.heap.size) w1 j c p 4 nb K fr bl d s ((LofA a val y).getD (jread d s y)) e w'->RdH Z w j c p 4 nb K fr bl d s ((LofA a val y).getD (jread d s y)) e w'):=fun w1 e w' b q=>q.low b
 have HC:Hid (∀e w',RdH Z w j c p 4 nb K fr bl d s ((LofA a val y).getD (jread d s y)) e w'->w'.cell? ⟨t,3,none⟩=some (.pointer (some ⟨x,0,none⟩))):=fun e w' q=>by
  obtain⟨g,cp,_,_,_,_,_,q8⟩:=q
  exact (q8.cell (p:=⟨t,3,none⟩) q3.lt q9.1).trans (q3.cell 3)
 have HY:Hid (∀e w',RdH Z w j c p 4 nb K fr bl d s ((LofA a val y).getD (jread d s y)) e w'->Calls Tryz.prog 65 #[.pointer (some ⟨x,0,none⟩),.int .i64 (y:Int),.slice (some ad) 512 cd] w' fun e w'=>e=.returned (.tuple #[])/\PO (.returned (.int .i64 0)) w'):=fun e w3 q=>by
  obtain⟨g0,cp0,_,_,_,_,⟨Z',r5,r6,r7⟩,r8⟩:=q
  have s8:=r8.size
  have hW3:Wm (fun k=>Zw k/\k<w.heap.size) w3 x j m n nb fr bl a sv mv ss ms val:=q2.keepZ (fun k q hk=>r8.block k hk (q6 k q).2) (fun k q hk=>⟨q,hk⟩)
  refine Calls.mono (hW3.lay hn hns y hy hh hnb ad cd zs (hR w3 (r8.mono (fun k _ e=>q5 k e)))) ?_
  rintro e w' ⟨rfl,a',sv',ss',val',Zw',u1,u2,u3,u4,u5,u6,u7⟩
  refine⟨rfl,?_⟩
  rw[hPO]
  have s7:=u7.size
  have hJ:Jq (fun k=>Z' k/\k<w3.heap.size) w' j c p 4 nb (K+1) fr bl d s:=r5.cut.but u7 (fun k _ e1 e2=>(q6 k e2.1).2 (r6 k e2.2 e1.1))
  have hdj:∀k,Zw' k->¬(Z' k/\k<w3.heap.size):=fun k e e2=>by
   have e3:=u6 k e2.2 e
   exact (q6 k e3.1).2 (r6 k e3.2 e2.1)
  obtain⟨Y',v1,v2,v3,v4⟩:=StM.step q3 q4 q5 q6 q8 q9 q10 hJ u1 (fun k hk e=>r6 k hk e.1) (fun k hk e=>(u6 k (by omega) e).1) hdj (fun k e=>by omega) u5 ((r8.mono (fun k _ e=>.inl e)).comp u7 (fun k _ e=>.inr e.1))
  exact⟨rfl,Y',a',ss',val',v1,u2,u3,u4,v2,v3,v4⟩
 clear q1 q2 q3 q4 hPO q5 q6 q8 q9 q10 hR hWq
 go_enter Tryz.func32,Tryz.ntmps32
 go_wp2_with fail
 refine Calls.mono HA.out ?_
 rintro e w1 ⟨rfl,b1⟩
 have HL1:=hid (HL.out w1 b1)
 have HP1:Hid (∀e w',RdH (fun k=>Z k/\k<w.heap.size) w1 j c p 4 nb K fr bl d s ((LofA a val y).getD (jread d s y)) e w'->RdH Z w j c p 4 nb K fr bl d s ((LofA a val y).getD (jread d s y)) e w'):=fun e w' q=>HP.out w1 e w' b1 q
 clear b1 HA HL HP
 go_wp2_with fail
 refine Calls.mono HL1.out ?_
 rintro e w3 q
 obtain⟨g3,cp3,rfl,_⟩:=id q
 have k3:=HC.out _ w3 (HP1.out _ w3 q)
 have HY1:=hid (HY.out _ w3 (HP1.out _ w3 q))
 clear q HL1 HP1 HC HY
 go_wp2_with fail
 refine Calls.mono HY1.out ?_
 rintro e w5 ⟨rfl,q⟩
 have FIN:=hid q
 clear q HY1
 go_wp2
 exact FIN.out
open Go.RowKit Go.Deep
theorem StM.cut{c:Nat}{s:Js}{t x m n:Nat}{a:Nat->Option Wr}{ss:List Sp}{ms:List Mr}{val:Nat->List Int}(h:StM Y w j c p st nb K fr bl d s t x m n a ss ms val):StM (fun k=>Y k/\k<w.heap.size) w j c p st nb K fr bl d s t x m n a ss ms val:=by
 obtain⟨Z,Zw,sv,mv,q1,q2,q3,q4,q5,q6,q8,q9,q10⟩:=h
 exact⟨fun k=>Z k/\k<w.heap.size,fun k=>Zw k/\k<w.heap.size,sv,mv,q1.cut,q2.cut,q3,q4,fun k e=>⟨q5 k e.1,e.2⟩,fun k e=>⟨⟨(q6 k e.1).1,e.2⟩,fun e2=>(q6 k e.1).2 e2.1⟩,q8,⟨fun e=>q9.1 e.1,fun e=>q9.2.1 e.1,q9.2.2,q3.lt⟩,⟨fun e=>q10.1 e.1,fun e=>q10.2.1 e.1,q10.2.2,q4.lt⟩⟩
open Go.RowKit Go.Deep
theorem snocIndP{C:List α->Prop}(h0:C [])(h1:∀l x,C l->C (l++[x])):∀l,C l:=fun l=>by
 have:∀n,∀l:List α,l.length=n->C l:=by
  intro n
  induction n with
  | zero=>intro l hl;rw[List.length_eq_zero_iff.1 hl];exact h0
  | succ n ih=>
   intro l hl
   have hne:l≠[]:=by intro q;rw[q]at hl;simp at hl
   rw[<- List.dropLast_concat_getLast hne]
   exact h1 _ _ (ih _ (by simp[hl]))
 exact this _ l rfl
theorem standP_nodup(ps:List Pm):(ps.map Pm.at_).Nodup->(standP ps).length=ps.length:=by
 refine snocIndP (C:=fun ps=>(ps.map Pm.at_).Nodup->(standP ps).length=ps.length) (fun _=>rfl) (fun l x ih hn=>?_) ps
 rw[List.map_append,List.nodup_append]at hn
 rw[standP_snoc,standStep_count,ih hn.1,List.length_append,if_neg]
 ·rfl
 ·rintro ⟨q,hq,e⟩
  exact hn.2.2 _ (List.mem_map_of_mem (standP_mem hq)) _ (by simp) e
theorem CmP.txb{c room:Nat}{s:Js}{L:Nat->Option (List Int)}{t:Nat}{e:Ending}(H:CmP Z Zw w j c p room nb K fr bl d s L t st e w')(hZt:¬Z t):Txb w' t j .nilIface st (.pointer none):=by
 obtain⟨w3,q1,_,_,q4⟩:=H
 rcases q4 with ⟨_,_,rfl⟩ | ⟨_,qs,_,_,k4⟩
 ·exact q1
 ·by_cases hc:appC nb fr bl d s qs=0
  ·obtain⟨_,_,r5⟩:=k4.1 hc
   exact q1.keep (r5.block t q1.lt (fun e=>hZt e.1))
  ·exact q1.keep ((k4.2 hc).2.block t q1.lt)
theorem CmP.large{c room:Nat}{s:Js}{L:Nat->Option (List Int)}{t:Nat}{e:Ending}{home:Nat->List Int}(H:CmP Z Zw w j c p room nb K fr bl d s L t st e w')(h:Jq Z w j c p room nb K fr bl d s)(ho:On d s nb fr bl lo home Ts)(hk:bl / 2-4<(homeKeys nb L).length)(hh:∀y,y∈homeKeys nb L->homeC nb fr bl (y:Int)=0)(hZt:¬Z t)(hZs:¬Z st) :
  e=.returned (.int .i64 44)/\Stb w' st j (.pointer none)/\But (fun k=>k=st\/k=t) w w'/\Jq (fun k=>Z k/\k<w.heap.size) w' j c p room nb K fr bl d s:=by
 obtain⟨w3,q1,q2,q3,q4⟩:=H
 rcases q4 with ⟨k1,_,_⟩ | ⟨_,qs,k2,k3,k4⟩
 ·rw[k1]at hk
  simp at hk
 ·have hql:qs.length=(homeKeys nb L).length:=by
   have:=congrArg List.length k2
   simpa using this
  have hpc:putsC nb fr bl qs=0:=putsC_zero (fun p hp=>by
   have hm:p.say∈qs.map Pm.say:=List.mem_map_of_mem hp
   rw[k2]at hm
   obtain⟨y,hy,e1⟩:=List.mem_map.1 hm
   obtain⟨_,_,_,_,_,e5⟩:=k3 p hp
   have e2:p.at_=(y:Int):=congrArg Prod.fst e1.symm
   unfold putC
   rw[e2,hh y hy,e5]
   simp)
  have hnd:(qs.map Pm.at_).Nodup:=by
   have e1:qs.map Pm.at_=(qs.map Pm.say).map Prod.fst:=by rw[List.map_map];rfl
   rw[e1,k2,List.map_map]
   exact nodup_homeKeys nb L
  have hst:=standP_nodup qs hnd
  have hap:appC nb fr bl d s qs=44:=by
   unfold appC
   rw[ho.on,hpc,if_neg (by decide),if_neg (by simp),if_pos (by omega)]
  obtain⟨r1,r2⟩:=k4.2 (by rw[hap];decide)
  rw[hap]at r1
  refine⟨r1,q2.keep (r2.block st q2.lt),q3.trans (But.of_below r2),?_⟩
  exact (h.cut.but q3 (fun k _ e1 e2=>e2.elim (fun q=>hZs (q ▸ e1.1)) (fun q=>hZt (q ▸ e1.1)))).below r2
structure OT where
 t:Nat
 x:Nat
 m:Nat
 n:Nat
 a:Nat->Option Wr
 ss:List Sp
 ms:List Mr
 val:Nat->List Int
def StO (Y:Nat->Prop) (w:World) (j c p st nb K fr bl:Nat) (d:Pd) (s:Js):Option OT->Prop
 | none=>StA Y w j c p st nb K fr bl d s
 | some o=>StM Y w j c p st nb K fr bl d s o.t o.x o.m o.n o.a o.ss o.ms o.val
theorem StA.keep2{c:Nat}{s:Js}(h:StA Y w j c p st nb K fr bl d s)(hb:But X w w')(hX:∀k,k<w.heap.size->X k->Y k->False):StA Y w' j c p st nb K fr bl d s:=by
 obtain⟨Z,h1,h2,h3,h4,h5⟩:=h
 exact⟨Z,h1.but hb (fun k hk e1 e2=>hX k hk e2 (h2 k e1)),h2,h3.keep (hb.block st h3.lt (fun e=>hX st h3.lt e h5)),h4,h5⟩
theorem StM.keep2{c:Nat}{s:Js}{t x m n:Nat}{a:Nat->Option Wr}{ss:List Sp}{ms:List Mr}{val:Nat->List Int}(h:StM Y w j c p st nb K fr bl d s t x m n a ss ms val)(hb:But X w w')(hX:∀k,k<w.heap.size->X k->Y k->False):StM Y w' j c p st nb K fr bl d s t x m n a ss ms val:=by
 obtain⟨Z,Zw,sv,mv,q1,q2,q3,q4,q5,q6,q8,q9,q10⟩:=h
 exact⟨Z,Zw,sv,mv,q1.but hb (fun k hk e1 e2=>hX k hk e2 (q5 k e1)),q2.but hb (fun k hk e1 e2=>hX k hk e2 (q6 k e1).1),q3.keep (hb.block t q3.lt (fun e=>hX t q3.lt e q9.2.2)),q4.keep (hb.block st q4.lt (fun e=>hX st q4.lt e q10.2.2)),q5,q6,q8,q9,q10⟩
theorem StO.keep{c:Nat}{s:Js}{o:Option OT}(h:StO Y w j c p st nb K fr bl d s o)(hb:But X w w')(hX:∀k,k<w.heap.size->X k->Y k->False):StO Y w' j c p st nb K fr bl d s o:=by
 cases o with
 | none=>exact StA.keep2 h hb hX
 | some o=>exact StM.keep2 h hb hX
theorem StO.below{c:Nat}{s:Js}{o:Option OT}(h:StO Y w j c p st nb K fr bl d s o)(hb:Below w.heap.size w w'):StO Y w' j c p st nb K fr bl d s o:=h.keep (X:=fun _=>False) (But.of_below hb) (fun _ _ q _=>q)
theorem StO.jq{c:Nat}{s:Js}{o:Option OT}(h:StO Y w j c p st nb K fr bl d s o):∃Z,Jq Z w j c p 4 nb K fr bl d s/\(∀k,Z k->Y k)/\Stb w st j (.pointer (o.map fun q=>⟨q.t,0,none⟩))/\¬Z st/\Y st:=by
 cases o with
 | none=>
  obtain⟨Z,h1,h2,h3,h4,h5⟩:=h
  exact⟨Z,h1,h2,h3,h4,h5⟩
 | some o=>
  obtain⟨Z,Zw,sv,mv,q1,q2,q3,q4,q5,q6,q8,q9,q10⟩:=h
  exact⟨Z,q1,q5,q4,q10.1,q10.2.2⟩
theorem StO.cut{c:Nat}{s:Js}{o:Option OT}(h:StO Y w j c p st nb K fr bl d s o):StO (fun k=>Y k/\k<w.heap.size) w j c p st nb K fr bl d s o:=by
 cases o with
 | none=>
  obtain⟨Z,h1,h2,h3,h4,h5⟩:=h
  exact⟨fun k=>Z k/\k<w.heap.size,h1.cut,fun k q=>⟨h2 k q.1,q.2⟩,h3,fun q=>h4 q.1,h5,h3.lt⟩
 | some o=>exact StM.cut h
theorem StO.open{c:Nat}{s:Js}{o:Option OT}(h:StO Y w j c p st nb K fr bl d s o):∃Z,Jq Z w j c p 4 nb K fr bl d s/\∀w' K' d' s',(∃Z',Jq Z' w' j c p 4 nb K' fr bl d' s'/\Gr Z Z' w)->But Z w w'->∃Y',StO Y' w' j c p st nb K' fr bl d' s' o/\(∀k,Y' k->k<w'.heap.size)/\Gr Y Y' w/\But Y w w':=by
 cases o with
 | none=>
  obtain⟨Z,h1,h2,h3,h4,h5⟩:=h
  refine⟨Z,h1,fun w' K' d' s' H q3=>?_⟩
  obtain⟨Z',q1,q2⟩:=H
  have hs:=q3.size
  exact⟨growZ Y Z' w w',⟨fun k=>Z' k/\k<w'.heap.size,q1.cut,fun k e=>growZ.of h2 q2 e.1 e.2,h3.keep (q3.block st h3.lt h4),fun e=>h4 (q2 st h3.lt e.1),.inl ⟨h5,h3.lt⟩⟩,fun k q=>by rcases q with q | q <;> omega,growZ.gr _ _ _ _,q3.mono (fun k _ e=>h2 k e)⟩
 | some o=>
  obtain⟨Z,Zw,sv,mv,q1,q2,q3,q4,q5,q6,q8,q9,q10⟩:=h
  refine⟨Z,q1,fun w' K' d' s' H r3=>?_⟩
  obtain⟨Z',r1,r2⟩:=H
  have hs:=r3.size
  exact StM.step (Z:=Z) (Zw:=Zw) (Z':=fun k=>Z' k/\k<w'.heap.size) (Zw':=fun k=>Zw k/\k<w.heap.size) q3 q4 q5 q6 q8 q9 q10 r1.cut (q2.cut.but r3 (fun k _ e=>(q6 k e.1).2)) (fun k hk e=>r2 k hk e.1) (fun k _ e=>e.1) (fun k e e2=>(q6 k e.1).2 (r2 k e.2 e2.1)) (fun k e=>e.2) (fun k e=>Nat.lt_of_lt_of_le e.2 hs) (r3.mono (fun k _ e=>.inl e))
end Go.Proofs.YthfojpcibnfmgaaGreat
