import Derived.Test.YtlefjidbpjkhlaaGreatK17
import Derived.Test.YtlefjidbpjkhlaaGreatK11
import Derived.Deep.RegionHeld3
import Derived.Deep.DeepCutAuto
import Derived.Test.YtlefjidbpjkhlaaGreatK00
import Derived.Deep.AppendLies
set_option maxRecDepth 100000
set_option maxHeartbeats 16000000
namespace Go.Proofs.YtlefjidbpjkhlaaGreat
variable {Z:Nat->Prop}
variable {w w':World}
variable {K bl c cp e j k m n p st t x y:Nat}
variable {d:Pd}
variable {s:Js}
variable {fv mv sv tv v wv:Value}
variable {xs:List Value}
open Go.RowKit Go.Deep
theorem over_new(j nb fr bl:Nat)(w:World):Calls Tryz.prog 38 #[.iface 76 (.pointer (some ⟨j,0,none⟩))] w fun e w'=>∃x m,e=.returned (.pointer (some ⟨x,0,none⟩))/\w.heap.size<=x/\w.heap.size<=m/\x<w'.heap.size/\m<w'.heap.size/\Below w.heap.size w w'/\Wq (fun k=>k=x\/k=m) w' x j m 0 nb fr bl (.map []) (fun _=>none) (.slice none 0 0) (.slice none 0 0) (fun _=>none):=by
 obtain⟨w1,hw1⟩:∃w1,w1=w.alloc (.map #[] 0):=⟨_,rfl⟩
 have z1:w1.heap.size=w.heap.size+1:=by rw[hw1];simp
 have b1:Below w.heap.size w w1:=by rw[hw1];exact (Below.refl _ _).alloc (Nat.le_refl _) _
 have m1:w1.ownsMap Tryz.prog 3 wrElem w.heap.size 0 (.map []:DataW (Nat×Nat×Int)):=by rw[hw1];exact World.ownsMap_made w Tryz.prog 3 wrElem
 obtain⟨w2,hw2⟩:∃w2,w2=w1.alloc (.cells #[.iface 76 (.pointer (some ⟨j,0,none⟩)),.map (some w.heap.size),.slice none 0 0,.slice none 0 0] 135):=⟨_,rfl⟩
 have z2:w2.heap.size=w.heap.size+2:=by rw[hw2];simp[z1]
 have b2:Below w1.heap.size w1 w2:=by rw[hw2];exact (Below.refl _ _).alloc (Nat.le_refl _) _
 have FIN:Hid (∃x m,Ending.returned (.pointer (some ⟨w.heap.size+1,0,none⟩))=.returned (.pointer (some ⟨x,0,none⟩))/\w.heap.size<=x/\w.heap.size<=m/\x<w2.heap.size/\m<w2.heap.size/\Below w.heap.size w w2/\Wq (fun k=>k=x\/k=m) w2 x j m 0 nb fr bl (.map []) (fun _=>none) (.slice none 0 0) (.slice none 0 0) (fun _=>none)):=by
  refine⟨w.heap.size+1,w.heap.size,rfl,by omega,by omega,by omega,by omega,b1.trans (b2.mono (by omega)),⟨?_,mapW_keep m1 (b2.block _ (by omega)),AMx.nil nb,(fun y g cp k e=>by cases e),fun _ _=>rfl,.inl rfl,.inr rfl⟩⟩
  rw[hw2,<- z1]
  exact Array.getElem?_push_size
 have HW:Hid (w2=(w.alloc (.map #[] 0)).alloc (.cells #[.iface 76 (.pointer (some ⟨j,0,none⟩)),.map (some w.heap.size),.slice none 0 0,.slice none 0 0] 135)):=hw2.trans (by rw[hw1])
 have hmm:=@run_makeMap Tryz.prog
 clear hw1 hw2 b1 b2 m1 z1 z2
 go_enter Tryz.func38,Tryz.ntmps38
 go_wp2
 rw[<- HW.out]
 go_ret
 exact FIN.out
theorem begin_any{room nb fr:Nat}(h:Jq Z w j c p room nb K fr bl d s)(hon:d.off=false)(hs:Stb w st j (.pointer none)) :
  Calls Tryz.prog 9 #[.pointer (some ⟨st,0,none⟩)] w fun e w'=>∃t x m,e=.returned (.tuple #[.pointer (some ⟨t,0,none⟩),.int .i64 0])/\(w.heap.size<=t/\w.heap.size<=x/\w.heap.size<=m/\x<t/\m<t/\t<w'.heap.size)/\Txb w' t j (.iface 83 (.pointer (some ⟨x,0,none⟩))) st (.pointer (some ⟨x,0,none⟩))/\Stb w' st j (.pointer (some ⟨t,0,none⟩))/\Wq (fun k=>k=x\/k=m) w' x j m 0 nb fr bl (.map []) (fun _=>none) (.slice none 0 0) (.slice none 0 0) (fun _=>none)/\But (fun k=>k=st) w w':=by
 refine poz fun PO hPO=>?_
 have HA:=hid (sask_any h hs)
 rw[hon]at HA
 have HS:Hid (∀w',Below w.heap.size w w'->Stb w' st j (.pointer none)/\st<w'.heap.size):=fun w' b=>⟨hs.keep (b.block st hs.lt),Nat.lt_of_lt_of_le hs.lt b.size⟩
 have hsl:=hs.lt
 have HP:Hid (∀w2 x m,Below w.heap.size w w2->(w.heap.size<=x/\w.heap.size<=m/\x<w2.heap.size/\m<w2.heap.size)->Wq (fun k=>k=x\/k=m) w2 x j m 0 nb fr bl (.map []) (fun _=>none) (.slice none 0 0) (.slice none 0 0) (fun _=>none)->PO (.returned (.tuple #[.pointer (some ⟨w2.heap.size,0,none⟩),.int .i64 0])) ((w2.setCell ⟨st,2,none⟩ (.pointer (some ⟨w2.heap.size,0,none⟩))).alloc (.cells #[.pointer (some ⟨j,0,none⟩),.iface 83 (.pointer (some ⟨x,0,none⟩)),.pointer (some ⟨st,0,none⟩),.pointer (some ⟨x,0,none⟩)] 86))):=fun w2 x m b2 hx hW=>by
  rw[hPO]
  have s2:=b2.size
  have bs:But (fun k=>k=st) w2 (w2.setCell ⟨st,2,none⟩ (.pointer (some ⟨w2.heap.size,0,none⟩))):=(But.refl (fun k=>k=st) w2).setCell rfl _
  have bt:But (fun k=>k=st) w2 ((w2.setCell ⟨st,2,none⟩ (.pointer (some ⟨w2.heap.size,0,none⟩))).alloc (.cells #[.pointer (some ⟨j,0,none⟩),.iface 83 (.pointer (some ⟨x,0,none⟩)),.pointer (some ⟨st,0,none⟩),.pointer (some ⟨x,0,none⟩)] 86)):=bs.alloc _
  refine⟨w2.heap.size,x,m,rfl,⟨by omega,hx.1,hx.2.1,hx.2.2.1,hx.2.2.2,by simp⟩,?_,?_,hW.but bt (fun k hk q e=>by omega),(But.of_below b2 (X:=fun k=>k=st)).comp bt (fun _ _ q=>q)⟩
  ·have:=@Array.getElem?_push_size _ (w2.setCell ⟨st,2,none⟩ (.pointer (some ⟨w2.heap.size,0,none⟩))).heap (.cells #[.pointer (some ⟨j,0,none⟩),.iface 83 (.pointer (some ⟨x,0,none⟩)),.pointer (some ⟨st,0,none⟩),.pointer (some ⟨x,0,none⟩)] 86 (0,0))
   unfold Txb
   simp only[World.alloc]
   rw[show w2.heap.size=(w2.setCell ⟨st,2,none⟩ (.pointer (some ⟨w2.heap.size,0,none⟩))).heap.size by simp]
   simpa using this
  ·exact ((HS.out w2 b2).1.set _).keep (Below.heap_alloc _ _ _ (by simpa using (HS.out w2 b2).2))
 clear h hs hPO
 go_enter Tryz.func9,Tryz.ntmps9
 go_wp2_with fail
 refine Calls.mono HA.out ?_
 rintro e w1 ⟨rfl,b1⟩
 obtain⟨s1,_⟩:=HS.out w1 b1
 have k0:=s1.cell 0
 have k1:=s1.cell 1
 have k2:=s1.cell 2
 simp at k0 k1 k2
 have B1:=hid b1
 clear b1 HA s1
 go_wp2_with fail
 refine Calls.mono (over_new j nb fr bl w1) ?_
 rintro e w2 ⟨x,m,rfl,hx1,hx2,hx3,hx4,b2,hW⟩
 have s1:=B1.out.size
 have B2:Hid (Below w.heap.size w w2):=B1.out.trans (b2.mono s1)
 obtain⟨s2,hsl2⟩:=HS.out w2 B2.out
 have q0:=s2.cell 0
 have q2:=s2.cell 2
 have qf:=s2.frozen 2
 simp at q0 q2
 have FIN:=hid (HP.out w2 x m B2.out ⟨by omega,by omega,hx3,hx4⟩ hW)
 clear b2 hW k0 k1 k2 HS HP s2 B1 B2 hx1 hx2 s1
 go_wp2
 exact FIN.out
theorem end_any(ht:Txb w t j fv st wv)(hs:Stb w st j tv)(hne:st≠t) :
  Calls Tryz.prog 42 #[.pointer (some ⟨t,0,none⟩)] w fun e w'=>e=.returned (.tuple #[])/\Txb w' t j .nilIface st (.pointer none)/\Stb w' st j (.pointer none)/\But (fun k=>k=st\/k=t) w w':=by
 refine poz fun PO hPO=>?_
 obtain⟨w3,hw3⟩:∃w3,w3=((w.setCell ⟨st,2,none⟩ (.pointer none)).setCell ⟨t,3,none⟩ (.pointer none)).setCell ⟨t,1,none⟩ .nilIface:=⟨_,rfl⟩
 have FIN:Hid (Txb w3 t j .nilIface st (.pointer none)/\Stb w3 st j (.pointer none)/\But (fun k=>k=st\/k=t) w w3):=by
  have t1:Txb (w.setCell ⟨st,2,none⟩ (.pointer none)) t j fv st wv:=ht.keep (Below.heap_setCell _ _ _ _ (fun e=>hne e.symm))
  have t2:Txb ((w.setCell ⟨st,2,none⟩ (.pointer none)).setCell ⟨t,3,none⟩ (.pointer none)) t j fv st (.pointer none):=by
   unfold Txb at *
   simp only[World.setCell,Array.getElem?_modify]at t1 ⊢
   rw[t1]
   simp
  refine⟨?_,?_,?_⟩
  ·rw[hw3]
   unfold Txb at *
   simp only[World.setCell,Array.getElem?_modify]at t2 ⊢
   rw[t2]
   simp
  ·rw[hw3]
   exact ((hs.set (.pointer none)).keep (Below.heap_setCell _ _ _ _ hne)).keep (Below.heap_setCell _ _ _ _ hne)
  ·rw[hw3]
   exact (((But.refl (fun k=>k=st\/k=t) w).setCell (.inl rfl) _).setCell (.inr rfl) _).setCell (.inr rfl) _
 have FP:Hid (PO (.returned (.tuple #[])) w3):=by rw[hPO];exact⟨rfl,FIN.out⟩
 have HW:=hid hw3
 clear FIN hPO
 have k2:=ht.cell 2
 have k3:=ht.cell 3
 have k1:=ht.cell 1
 have f1:=ht.frozen 1
 have f3:=ht.frozen 3
 have q2:=hs.cell 2
 have qf:=hs.frozen 2
 simp at k1 k2 k3 q2
 have hne':¬t=st:=fun e=>hne e.symm
 clear ht hs hw3
 go_enter Tryz.func42,Tryz.ntmps42
 go_wp2
 rw[<- HW.out]
 go_end0
 exact FP.out
open Go.RowKit Go.Deep
def putL (L:Nat->Option (List Int)) (y:Nat) (zs:List Int):Nat->Option (List Int):=fun z=>if z=y then some zs else L z
open Go.RowKit Go.Deep
theorem abort_any{room nb fr:Nat}(h:Jq Z w j c p room nb K fr bl d s)(hon:d.off=false)(ht:Txb w t j fv st wv)(hs:Stb w st j (.pointer (some ⟨t,0,none⟩)))(hne:st≠t) :
  Calls Tryz.prog 14 #[.pointer (some ⟨t,0,none⟩)] w fun e w'=>e=.returned (.int .i64 0)/\Txb w' t j .nilIface st (.pointer none)/\Stb w' st j (.pointer none)/\But (fun k=>k=st\/k=t) w w':=by
 refine poz fun PO hPO=>?_
 have HA:=hid (task_open h hon ht hs)
 have HE:Hid (∀w1,Below w.heap.size w w1->Calls Tryz.prog 42 #[.pointer (some ⟨t,0,none⟩)] w1 fun e w'=>e=.returned (.tuple #[])/\PO (.returned (.int .i64 0)) w'):=fun w1 b1=>by
  refine Calls.mono (end_any (ht.keep (b1.block t ht.lt)) (hs.keep (b1.block st hs.lt)) hne) ?_
  rintro e w' ⟨rfl,q1,q2,q3⟩
  refine⟨rfl,?_⟩
  rw[hPO]
  exact⟨rfl,q1,q2,(But.of_below b1 (X:=fun k=>k=st\/k=t)).comp q3 (fun _ _ q=>q)⟩
 clear h ht hs hPO
 go_enter Tryz.func14,Tryz.ntmps14
 go_wp2_with fail
 refine Calls.mono HA.out ?_
 rintro e w1 ⟨rfl,b1⟩
 have HE1:=hid (HE.out w1 b1)
 clear b1 HA HE
 go_wp2_with fail
 refine Calls.mono HE1.out ?_
 rintro e w3 ⟨rfl,q⟩
 have FIN:=hid q
 clear q HE1
 go_wp2
 exact FIN.out
abbrev Wr:=Nat×Nat×Int
abbrev Sp:=Nat×Option Wr
abbrev Mr:=Nat×(Nat->Option Wr)
def undo (ss:List Sp) (a:Nat->Option Wr):Nat->Option Wr:=fun y=>match ss.find? (fun s=>s.1 == y) with
 | some s=>s.2
 | none=>a y
def back1 (s:Sp) (a:Nat->Option Wr):Nat->Option Wr:=fun y=>if y=s.1 then s.2 else a y
theorem undo_snoc(ss:List Sp)(s:Sp)(a:Nat->Option Wr):undo (ss++[s]) a=undo ss (back1 s a):=by
 funext y
 unfold undo back1
 rw[List.find?_append]
 cases h:ss.find? (fun s=>s.1 == y) with
 | some t=>rfl
 | none=>
  simp only[Option.none_or,List.find?_cons,List.find?_nil]
  by_cases e:s.1=y
  ·simp[e]
  ·have:(s.1 == y)=false:=by simpa using e
   rw[this]
   simp[Ne.symm e]
theorem undo_put{ss:List Sp}(h:∃s∈ss,s.1=y)(a:Nat->Option Wr)(r:Option Wr):undo ss (fun z=>if z=y then r else a z)=undo ss a:=by
 funext z
 unfold undo
 cases h2:ss.find? (fun s=>s.1 == z) with
 | some t=>rfl
 | none=>
  obtain⟨s,hs,e⟩:=h
  have:=List.find?_eq_none.1 h2 s hs
  have hz:z≠y:=fun q=>this (by simp[q,e])
  simp[hz]
theorem undo_step(ss:List Sp)(y:Nat)(a:Nat->Option Wr)(r:Option Wr):undo (ss++[(y,a y)]) (fun z=>if z=y then r else a z)=undo ss a:=by
 rw[undo_snoc]
 congr 1
 funext z
 unfold back1
 by_cases e:z=y
 ·simp[e]
 ·simp[e]
structure Mk (a:Nat->Option Wr) (ss:List Sp) (ms:List Mr):Prop where
 le:∀y g cp k,a y=some (g,cp,k)->0<=k/\k<=(ms.length:Int)
 pos:∀(i p:Nat) (b:Nat->Option Wr),ms[i]?=some (p,b)->p<=ss.length/\undo (ss.drop p) a=b/\∀y g cp k,b y=some (g,cp,k)->0<=k/\k<=(i:Int)
 mono:∀(i p:Nat) (b:Nat->Option Wr) (i' p':Nat) (b':Nat->Option Wr),ms[i]?=some (p,b)->ms[i']?=some (p',b')->i<=i'->p<=p'
 now:∀y g cp k,a y=some (g,cp,k)->k=(ms.length:Int)->0<ms.length->∀(i p:Nat) (b:Nat->Option Wr),ms[i]?=some (p,b)->∃s∈ss.drop p,s.1=y
theorem Mk.nil:Mk (fun _=>none) [] []:=⟨(fun _ _ _ _ e=>by cases e),(fun i p b e=>by simp at e),(fun i p b i' p' b' e=>by simp at e),(fun _ _ _ _ e=>by cases e)⟩
theorem Mk.lay0{a:Nat->Option Wr}{ss:List Sp}{ms:List Mr}(h:Mk a ss ms){g:Nat}(hc:ms=[]\/∃g' cp',a y=some (g',cp',(ms.length:Int))):Mk (fun z=>if z=y then some (g,cp,(ms.length:Int)) else a z) ss ms:=by
 have hst:ms=[]\/∀(i p:Nat) (b:Nat->Option Wr),ms[i]?=some (p,b)->∃s∈ss.drop p,s.1=y:=by
  rcases hc with e | ⟨g',cp',e⟩
  ·exact .inl e
  ·by_cases q:ms=[]
   ·exact .inl q
   ·exact .inr (fun i p b ei=>h.now y g' cp' _ e rfl (List.length_pos_iff.2 q) i p b ei)
 refine⟨fun z g2 cp2 k e=>?_,fun i p b e=>?_,h.mono,fun z g2 cp2 k e ek hp i p b ei=>?_⟩
 ·by_cases q:z=y
  ·simp[q]at e
   obtain⟨_,_,rfl⟩:=e
   omega
  ·simp[q]at e
   exact h.le z g2 cp2 k e
 ·rcases hst with q | q
  ·rw[q]at e;simp at e
  ·obtain⟨h1,h2,h3⟩:=h.pos i p b e
   exact⟨h1,by rw[undo_put (q i p b e)];exact h2,h3⟩
 ·rcases hst with q | q
  ·rw[q]at ei;simp at ei
  ·by_cases r:z=y
   ·rw[r];exact q i p b ei
   ·simp[r]at e
    exact h.now z g2 cp2 k e ek hp i p b ei
theorem Mk.lay1{a:Nat->Option Wr}{ss:List Sp}{ms:List Mr}(h:Mk a ss ms)(y g cp:Nat):Mk (fun z=>if z=y then some (g,cp,(ms.length:Int)) else a z) (ss++[(y,a y)]) ms:=by
 refine⟨fun z g2 cp2 k e=>?_,fun i p b e=>?_,h.mono,fun z g2 cp2 k e ek hp i p b ei=>?_⟩
 ·by_cases q:z=y
  ·simp[q]at e
   obtain⟨_,_,rfl⟩:=e
   omega
  ·simp[q]at e
   exact h.le z g2 cp2 k e
 ·obtain⟨h1,h2,h3⟩:=h.pos i p b e
  refine⟨by simp;omega,?_,h3⟩
  rw[List.drop_append_of_le_length h1,undo_step]
  exact h2
 ·have h1:=(h.pos i p b ei).1
  rw[List.drop_append_of_le_length h1]
  by_cases r:z=y
  ·exact⟨(y,a y),by simp,r.symm⟩
  ·simp[r]at e
   obtain⟨s,hs,es⟩:=h.now z g2 cp2 k e ek hp i p b ei
   exact⟨s,by simp[hs],es⟩
open Go.RowKit Go.Deep
def Xb (w:World) (x j m:Nat) (sv mv:Value):Prop:=w.heap[x]?=some (.cells #[.iface 76 (.pointer (some ⟨j,0,none⟩)),.map (some m),sv,mv] 135 (0,0))
theorem Xb.lt(h:Xb w x j m sv mv):x<w.heap.size:=(Array.getElem?_eq_some_iff.1 h).1
theorem Xb.cell(h:Xb w x j m sv mv)(t:Nat):w.cell? ⟨x,t,none⟩=#[.iface 76 (.pointer (some ⟨j,0,none⟩)),.map (some m),sv,mv][t]?:=by
 unfold Xb at h
 simp[World.cell?,h]
theorem Xb.frozen(h:Xb w x j m sv mv)(t:Nat):w.frozen? ⟨x,t,none⟩=false:=by
 unfold Xb at h
 simp[World.frozen?,h]
theorem Xb.keep(h:Xb w x j m sv mv)(hk:w'.heap[x]?=w.heap[x]?):Xb w' x j m sv mv:=hk.trans h
theorem Xb.set2(h:Xb w x j m sv mv)(v:Value):Xb (w.setCell ⟨x,2,none⟩ v) x j m v mv:=by
 unfold Xb at h ⊢
 simp only[World.setCell,Array.getElem?_modify]
 rw[h]
 simp
theorem news1(w:World)(u:Value)(t:TypeId):∀j y,[u][j]?=some y->(w.alloc (.cells #[u] t)).cell? ((⟨w.heap.size,0,none⟩:Addr).add j)=some y:=by
 intro j y hy
 match j,hy with
 | 0,hy=>
  have:u=y:=by simpa using hy
  subst this
  rw[Addr.add_lit]
  exact cell_new rfl 0 _ rfl
 | j+1,hy=>simp at hy
theorem row_ne_x{base:Nat}(h:w.ownsRow base e 1 v n xs)(hx:Xb w x j m sv mv)(he:e≠135)(hk:v.ownBlock=some k):k≠x:=fun q=>by
 subst q
 rcases h.2 with ⟨rfl,_⟩ | ⟨g,cap,cur,rfl,_,hg,_⟩
 ·simp[Value.ownBlock]at hk
 ·have:g=k:=by simpa [Value.ownBlock] using hk
  subst this
  unfold Xb at hx
  rw[hx]at hg
  injection hg with hg
  injection hg with _ hg
  exact he hg.symm
end Go.Proofs.YtlefjidbpjkhlaaGreat
