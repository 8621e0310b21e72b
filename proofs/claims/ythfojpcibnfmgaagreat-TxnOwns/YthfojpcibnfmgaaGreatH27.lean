import Derived.Test.YthfojpcibnfmgaaGreatH26
import Derived.Test.YthfojpcibnfmgaaGreatH00
import Derived.Test.YthfojpcibnfmgaaGreatH19
import Derived.Test.YthfojpcibnfmgaaGreatH12
import Derived.Deep.AppendLies
set_option maxRecDepth 100000
set_option maxHeartbeats 16000000
namespace Go.Proofs.YthfojpcibnfmgaaGreat
variable {w w':World}
variable {K M b bl cp e fr i j k m n nb ns p st t x y:Nat}
variable {D:DataW (Nat×Nat×Int)}
variable {fv mv sv tv:Value}
variable {Z:Nat->Prop}
variable {d:Pd}
variable {s:Js}
variable {xs:List Value}
variable {sa:Option Addr}
open Go.RowKit Go.Deep
theorem Wq.lows{Zw:Nat->Prop}{a:Nat->Option (Nat×Nat×Int)}{L:Nat->Option (List Int)}(hW:Wq Zw w x j m n nb fr bl D a sv mv L)(b:Below w.heap.size w w'):Wq Zw w' x j m n nb fr bl D a sv mv L:=hW.keep (fun k _ hk=>b.block k hk)
theorem sread_far{c room:Nat}(h:Jq Z w j c p room nb K fr bl d s)(h1:fr+bl<=nb)(hon:d.off=false)(y:Int)(hh:homeC nb fr bl y≠0)(hs:Stb w st j tv):Calls Tryz.prog 27 #[.pointer (some ⟨st,0,none⟩),.int .i64 y] w fun e w'=>e=.returned (.tuple #[.slice none 0 0,.int .i64 42])/\Below w.heap.size w w':=by
 have HA:=hid (sask_any h hs)
 rw[hon]at HA
 have HL:Hid (∀w1,Below w.heap.size w w1->Calls Tryz.prog 61 #[.pointer (some ⟨st,0,none⟩),.int .i64 y] w1 fun e w'=>e=.returned (.tuple #[.slice none 0 0,.int .i64 42])/\Below w.heap.size w w'):=fun w1 b1=>by
  refine Calls.mono (look_jfar (h.below b1) h1 hon y hh (b:=st) ((b1.cell (p:=⟨st,1,none⟩) hs.lt).trans (hs.cell 1))) ?_
  rintro e w' ⟨q1,q2⟩
  exact⟨q1,b1.trans (q2.mono b1.size)⟩
 clear h hs hh
 go_enter Tryz.func27,Tryz.ntmps27
 go_wp2_with fail
 refine Calls.mono HA.out ?_
 rintro e w1 ⟨rfl,b1⟩
 have HL1:=hid (HL.out w1 b1)
 clear b1 HA HL
 go_wp2_with fail
 refine Calls.mono HL1.out ?_
 rintro e w3 ⟨rfl,q⟩
 have FIN:=hid q
 clear q HL1
 go_wp2
 go_ret2
 exact⟨rfl,FIN.out⟩
theorem look_wfar{c room:Nat}(h:Jq Z w j c p room nb K fr bl d s){Zw:Nat->Prop}{a:Nat->Option (Nat×Nat×Int)}{L:Nat->Option (List Int)}(hW:Wq Zw w x j m n nb fr bl D a sv mv L)(h1:fr+bl<=nb)(hon:d.off=false)(y:Int)(hy1:-9223372036854775808<=y)(hy2:y<=9223372036854775807)(hh:homeC nb fr bl y≠0)(hc:w.cell? ⟨b,1,none⟩=some (.iface 122 (.pointer (some ⟨x,0,none⟩)))):Calls Tryz.prog 61 #[.pointer (some ⟨b,0,none⟩),.int .i64 y] w fun e w'=>e=.returned (.tuple #[.slice none 0 0,.int .i64 42])/\Below w.heap.size w w':=by
 have H:=hid (wread_far h hW h1 hon y hy1 hy2 hh)
 clear h hW hh
 go_enter Tryz.func61,Tryz.ntmps61
 go_wp2_with (rw[readW])
 refine Calls.mono H.out ?_
 rintro e w1 ⟨rfl,b1⟩
 have B1:=hid b1
 clear b1 H
 go_wp2
 go_ret2
 exact⟨rfl,B1.out⟩
theorem tread_far{c room:Nat}(h:Jq Z w j c p room nb K fr bl d s){Zw:Nat->Prop}{a:Nat->Option (Nat×Nat×Int)}{L:Nat->Option (List Int)}(hW:Wq Zw w x j m n nb fr bl D a sv mv L)(h1:fr+bl<=nb)(hon:d.off=false)(y:Int)(hy1:-9223372036854775808<=y)(hy2:y<=9223372036854775807)(hh:homeC nb fr bl y≠0)(ht:Txb w t j (.iface 122 (.pointer (some ⟨x,0,none⟩))) st (.pointer (some ⟨x,0,none⟩)))(hs:Stb w st j (.pointer (some ⟨t,0,none⟩))):Calls Tryz.prog 28 #[.pointer (some ⟨t,0,none⟩),.int .i64 y] w fun e w'=>e=.returned (.tuple #[.slice none 0 0,.int .i64 42])/\Below w.heap.size w w':=by
 have HA:=hid (task_open h hon ht hs)
 have HL:Hid (∀w1,Below w.heap.size w w1->Calls Tryz.prog 61 #[.pointer (some ⟨t,0,none⟩),.int .i64 y] w1 fun e w'=>e=.returned (.tuple #[.slice none 0 0,.int .i64 42])/\Below w.heap.size w w'):=fun w1 b1=>by
  refine Calls.mono (look_wfar (h.below b1) (hW.lows b1) h1 hon y hy1 hy2 hh (b:=t) ((b1.cell (p:=⟨t,1,none⟩) ht.lt).trans (ht.cell 1))) ?_
  rintro e w' ⟨q1,q2⟩
  exact⟨q1,b1.trans (q2.mono b1.size)⟩
 clear h hs hh ht hW
 go_enter Tryz.func28,Tryz.ntmps28
 go_wp2_with fail
 refine Calls.mono HA.out ?_
 rintro e w1 ⟨rfl,b1⟩
 have HL1:=hid (HL.out w1 b1)
 clear b1 HA HL
 go_wp2_with fail
 refine Calls.mono HL1.out ?_
 rintro e w3 ⟨rfl,q⟩
 have FIN:=hid q
 clear q HL1
 go_wp2
 go_ret2
 exact⟨rfl,FIN.out⟩
theorem twrite_far{c room:Nat}(h:Jq Z w j c p room nb K fr bl d s){Zw:Nat->Prop}{a:Nat->Option (Nat×Nat×Int)}{L:Nat->Option (List Int)}(hW:Wq Zw w x j m n nb fr bl D a sv mv L)(h1:fr+bl<=nb)(hon:d.off=false)(y:Int)(hy1:-9223372036854775808<=y)(hy2:y<=9223372036854775807)(hh:homeC nb fr bl y≠0)(ht:Txb w t j (.iface 122 (.pointer (some ⟨x,0,none⟩))) st (.pointer (some ⟨x,0,none⟩)))(hs:Stb w st j (.pointer (some ⟨t,0,none⟩)))(dv:Value):Calls Tryz.prog 32 #[.pointer (some ⟨t,0,none⟩),.int .i64 y,dv] w fun e w'=>e=.returned (.int .i64 42)/\Below w.heap.size w w':=by
 have HA:=hid (task_open h hon ht hs)
 have HL:Hid (∀w1,Below w.heap.size w w1->Calls Tryz.prog 61 #[.pointer (some ⟨t,0,none⟩),.int .i64 y] w1 fun e w'=>e=.returned (.tuple #[.slice none 0 0,.int .i64 42])/\Below w.heap.size w w'):=fun w1 b1=>by
  refine Calls.mono (look_wfar (h.below b1) (hW.lows b1) h1 hon y hy1 hy2 hh (b:=t) ((b1.cell (p:=⟨t,1,none⟩) ht.lt).trans (ht.cell 1))) ?_
  rintro e w' ⟨q1,q2⟩
  exact⟨q1,b1.trans (q2.mono b1.size)⟩
 clear h hs hh ht hW
 go_enter Tryz.func32,Tryz.ntmps32
 go_wp2_with fail
 refine Calls.mono HA.out ?_
 rintro e w1 ⟨rfl,b1⟩
 have HL1:=hid (HL.out w1 b1)
 clear b1 HA HL
 go_wp2_with fail
 refine Calls.mono HL1.out ?_
 rintro e w3 ⟨rfl,q⟩
 have FIN:=hid q
 clear q HL1
 go_wp2
 go_ret
 exact⟨rfl,FIN.out⟩
theorem twrite_len{c room:Nat}(h:Jq Z w j c p room nb K fr bl d s){Zw:Nat->Prop}{a:Nat->Option (Nat×Nat×Int)}{L:Nat->Option (List Int)}(hW:Wq Zw w x j m n nb fr bl D a sv mv L)(h1:fr+bl<=nb)(hon:d.off=false)(hl:d.puts.length<=1073741824)(hK:K<4611686018427387904)(hnb:nb<=524288)(y:Nat)(hy:y<nb)(hh:homeC nb fr bl (y:Int)=0)(ht:Txb w t j (.iface 122 (.pointer (some ⟨x,0,none⟩))) st (.pointer (some ⟨x,0,none⟩)))(hs:Stb w st j (.pointer (some ⟨t,0,none⟩)))(xa:Option Addr)(xn xc:Nat)(hx:xn≠512):Calls Tryz.prog 32 #[.pointer (some ⟨t,0,none⟩),.int .i64 (y:Int),.slice xa xn xc] w fun e w'=>e=.returned (.int .i64 43)/\(∃Z',Jq Z' w' j c p room nb (K+1) fr bl d s/\Gr Z Z' w)/\But Z w w':=by
 have HA:=hid (task_open h hon ht hs)
 have HL:Hid (∀w1,Below w.heap.size w w1->Calls Tryz.prog 61 #[.pointer (some ⟨t,0,none⟩),.int .i64 (y:Int)] w1 (RdH (fun k=>Z k/\k<w.heap.size) w1 j c p room nb K fr bl d s ((L y).getD (jread d s y)))):=fun w1 b1=>look_w (h.cut.below b1) (hW.lows b1) h1 hon hl hK hnb y hy hh ((b1.cell (p:=⟨t,1,none⟩) ht.lt).trans (ht.cell 1))
 have HP:Hid (∀w1 e w',Below w.heap.size w w1->RdH (fun k=>Z k/\k<w.heap.size) w1 j c p room nb K fr bl d s ((L y).getD (jread d s y)) e w'->(∃Z',Jq Z' w' j c p room nb (K+1) fr bl d s/\Gr Z Z' w)/\But Z w w'):=fun w1 e w' b q=>by
  obtain⟨g,cp,_,_,_,_,⟨Z',q5,q6,_⟩,q8⟩:=q.low b
  exact⟨⟨Z',q5,q6⟩,q8⟩
 have hq:((xn:Int) != 512)=true:=by simp;omega
 clear h hs ht hW hx
 go_enter Tryz.func32,Tryz.ntmps32
 go_wp2_with fail
 refine Calls.mono HA.out ?_
 rintro e w1 ⟨rfl,b1⟩
 have HL1:=hid (HL.out w1 b1)
 have HP1:=hid (fun e w'=>HP.out w1 e w' b1)
 clear b1 HA HL HP
 go_wp2_with fail
 refine Calls.mono HL1.out ?_
 rintro e w3 q
 obtain⟨g3,cp3,rfl,_⟩:=id q
 have FIN:=hid (HP1.out _ w3 q)
 clear q HL1 HP1
 go_wp2
 go_ret
 exact⟨rfl,FIN.out⟩
theorem info83:(Tryz.prog.info? 83).map (fun i=>i.size)=some 3:=by kernel_rfl
theorem neq_ssame(w:World)(a:Addr):(binOp .neq 27 (.pointer (some a)) (.pointer (some a))).run Tryz.prog w=.ok (.bool false) w:=by
 obtain⟨j,hj,_⟩:=Option.map_eq_some_iff.1 info83
 have h:∀d:Nat,(Op.equalIn (d+1) 27 (.pointer (some a)) (.pointer (some a))).run Tryz.prog w=.ok true w:=fun d=>by
  simp[Op.equalIn,run_underlying Tryz.underlying27,sizeOf,typeInfo,hj,run_sameAddr_same]
 simp only[binOp]
 simp[Op.equal,Op.maxDepth,h 9999]
theorem neq_sother(hne:x≠y){a b:Array Value}{p q:TypeId}(hx:w.heap[x]?=some (.cells a p (0,0)))(hy:w.heap[y]?=some (.cells b q (0,0))):(binOp .neq 27 (.pointer (some ⟨x,0,none⟩)) (.pointer (some ⟨y,0,none⟩))).run Tryz.prog w=.ok (.bool true) w:=by
 obtain⟨j,hj,hs⟩:=Option.map_eq_some_iff.1 info83
 have hsz:j.size≠0:=by rw[hs];decide
 have hne':(⟨x,0,none⟩:Addr)≠⟨y,0,none⟩:=fun q=>hne (by injection q)
 have h:∀d:Nat,(Op.equalIn (d+1) 27 (.pointer (some ⟨x,0,none⟩)) (.pointer (some ⟨y,0,none⟩))).run Tryz.prog w=.ok false w:=fun d=>by
  simp[Op.equalIn,run_underlying Tryz.underlying27,sizeOf,typeInfo,hj,hsz,run_sameAddr_other w hne' hx hy]
 simp only[binOp]
 simp[Op.equal,Op.maxDepth,h 9999]
theorem sowns_nil(w:World)(a:Addr):Calls Tryz.prog 31 #[.pointer (some a),.pointer none] w fun e w'=>e=.returned (.int .i64 1)/\Below w.heap.size w w':=by
 have B:Hid (Below w.heap.size w w):=Below.refl _ _
 go_enter Tryz.func31,Tryz.ntmps31
 go_wp2
 go_ret
 exact⟨rfl,B.out⟩
theorem sowns_off{c room:Nat}(h:Jq Z w j c p room nb K fr bl d s)(hoff:d.off=true)(hs:Stb w st j tv)(a:Addr):Calls Tryz.prog 31 #[.pointer (some ⟨st,0,none⟩),.pointer (some a)] w fun e w'=>e=.returned (.int .i64 24)/\Below w.heap.size w w':=by
 have HA:=hid (sask_any h hs)
 rw[hoff]at HA
 clear h hs
 go_enter Tryz.func31,Tryz.ntmps31
 go_wp2_with fail
 refine Calls.mono HA.out ?_
 rintro e w1 ⟨rfl,b1⟩
 have B1:=hid b1
 clear b1 HA
 go_wp2
 go_ret
 exact⟨rfl,B1.out⟩
theorem sowns_other{c room:Nat}(h:Jq Z w j c p room nb K fr bl d s)(hon:d.off=false)(hs:Stb w st j tv){j2 st2:Nat}{wv tv2:Value}(ht:Txb w t j2 fv st2 wv)(hs2:Stb w st2 j2 tv2)(hne:st2≠st):Calls Tryz.prog 31 #[.pointer (some ⟨st,0,none⟩),.pointer (some ⟨t,0,none⟩)] w fun e w'=>e=.returned (.int .i64 53)/\Below w.heap.size w w':=by
 have HA:=hid (sask_any h hs)
 rw[hon]at HA
 have HC:Hid (∀w',Below w.heap.size w w'->w'.cell? ⟨t,2,none⟩=some (.pointer (some ⟨st2,0,none⟩))/\(binOp .neq 27 (.pointer (some ⟨st2,0,none⟩)) (.pointer (some ⟨st,0,none⟩))).run Tryz.prog w'=.ok (.bool true) w'):=fun w' b=>⟨(b.cell (p:=⟨t,2,none⟩) ht.lt).trans (ht.cell 2),neq_sother hne (hs2.keep (b.block st2 hs2.lt)) (hs.keep (b.block st hs.lt))⟩
 clear h hs ht hs2
 go_enter Tryz.func31,Tryz.ntmps31
 go_wp2_with fail
 refine Calls.mono HA.out ?_
 rintro e w1 ⟨rfl,b1⟩
 obtain⟨c2,hq⟩:=HC.out w1 b1
 have B1:=hid b1
 clear b1 HA HC
 go_wp2
 go_ret
 exact⟨rfl,B1.out⟩
theorem sowns_own{c room:Nat}(h:Jq Z w j c p room nb K fr bl d s)(hon:d.off=false)(hs:Stb w st j tv){wv:Value}(ht:Txb w t j fv st wv){code:Int}(HT:∀w',Below w.heap.size w w'->Calls Tryz.prog 62 #[.pointer (some ⟨t,0,none⟩)] w' fun e w2=>e=.returned (.int .i64 code)/\Below w'.heap.size w' w2):Calls Tryz.prog 31 #[.pointer (some ⟨st,0,none⟩),.pointer (some ⟨t,0,none⟩)] w fun e w'=>e=.returned (.int .i64 code)/\Below w.heap.size w w':=by
 have HA:=hid (sask_any h hs)
 rw[hon]at HA
 have HC:Hid (∀w',Below w.heap.size w w'->w'.cell? ⟨t,2,none⟩=some (.pointer (some ⟨st,0,none⟩))):=fun w' b=>(b.cell (p:=⟨t,2,none⟩) ht.lt).trans (ht.cell 2)
 have HT:=hid HT
 clear h hs ht
 go_enter Tryz.func31,Tryz.ntmps31
 go_wp2_with fail
 refine Calls.mono HA.out ?_
 rintro e w1 ⟨rfl,b1⟩
 have c2:=HC.out w1 b1
 have hq:=neq_ssame w1 ⟨st,0,none⟩
 have HT1:=hid (HT.out w1 b1)
 have B1:=hid b1
 clear b1 HA HC HT
 go_wp2_with fail
 refine Calls.mono HT1.out ?_
 rintro e w2 ⟨rfl,b2⟩
 have B2:=hid (B1.out.trans (b2.mono B1.out.size))
 clear b2 HT1 B1
 go_wp2
 go_ret
 exact⟨rfl,B2.out⟩
abbrev Wr:=Nat×Nat×Int
abbrev Sp:=Nat×Option Wr
abbrev Mr:=Nat×(Nat->Option Wr)
def undo (ss:List Sp) (a:Nat->Option Wr):Nat->Option Wr:=fun y=>match ss.find? (fun s=>s.1 == y) with
 | some s=>s.2
 | none=>a y
def back1 (s:Sp) (a:Nat->Option Wr):Nat->Option Wr:=fun y=>if y=s.1 then s.2 else a y
theorem undo_nil(a:Nat->Option Wr):undo [] a=a:=rfl
theorem undo_snoc(ss:List Sp)(s:Sp)(a:Nat->Option Wr):undo (ss++[s]) a=undo ss (back1 s a):=by
 funext y
 unfold undo back1
 rw[List.find?_append]
 cases h:ss.find? (fun s=>s.1 == y) with
 | some t=>rfl
 | none=>
  simp only[Option.none_or,List.find?_cons,List.find?_nil]
  by_cases e:s.1=y
  ·simp[e]
  ·have:(s.1 == y)=false:=by simpa using e
   rw[this]
   simp[Ne.symm e]
theorem undo_put{ss:List Sp}(h:∃s∈ss,s.1=y)(a:Nat->Option Wr)(r:Option Wr):undo ss (fun z=>if z=y then r else a z)=undo ss a:=by
 funext z
 unfold undo
 cases h2:ss.find? (fun s=>s.1 == z) with
 | some t=>rfl
 | none=>
  obtain⟨s,hs,e⟩:=h
  have:=List.find?_eq_none.1 h2 s hs
  have hz:z≠y:=fun q=>this (by simp[q,e])
  simp[hz]
theorem undo_step(ss:List Sp)(y:Nat)(a:Nat->Option Wr)(r:Option Wr):undo (ss++[(y,a y)]) (fun z=>if z=y then r else a z)=undo ss a:=by
 rw[undo_snoc]
 congr 1
 funext z
 unfold back1
 by_cases e:z=y
 ·simp[e]
 ·simp[e]
structure Mk (a:Nat->Option Wr) (ss:List Sp) (ms:List Mr):Prop where
 le:∀y g cp k,a y=some (g,cp,k)->0<=k/\k<=(ms.length:Int)
 pos:∀(i p:Nat) (b:Nat->Option Wr),ms[i]?=some (p,b)->p<=ss.length/\undo (ss.drop p) a=b/\∀y g cp k,b y=some (g,cp,k)->0<=k/\k<=(i:Int)
 mono:∀(i p:Nat) (b:Nat->Option Wr) (i' p':Nat) (b':Nat->Option Wr),ms[i]?=some (p,b)->ms[i']?=some (p',b')->i<=i'->p<=p'
 now:∀y g cp k,a y=some (g,cp,k)->k=(ms.length:Int)->0<ms.length->∀(i p:Nat) (b:Nat->Option Wr),ms[i]?=some (p,b)->∃s∈ss.drop p,s.1=y
theorem Mk.nil:Mk (fun _=>none) [] []:=⟨(fun _ _ _ _ e=>by cases e),(fun i p b e=>by simp at e),(fun i p b i' p' b' e=>by simp at e),(fun _ _ _ _ e=>by cases e)⟩
theorem Mk.mark{a:Nat->Option Wr}{ss:List Sp}{ms:List Mr}(h:Mk a ss ms):Mk a ss (ms++[(ss.length,a)]):=by
 have hg:∀i p b,(ms++[(ss.length,a)])[i]?=some (p,b)->(i<ms.length/\ms[i]?=some (p,b))\/(i=ms.length/\p=ss.length/\b=a):=fun i p b e=>by
  rw[List.getElem?_append]at e
  split at e
  ·rename_i q;exact .inl ⟨q,e⟩
  ·rename_i q
   have hi:i-ms.length=0:=by
    rcases Nat.eq_zero_or_pos (i-ms.length) with z | z
    ·exact z
    ·rw[List.getElem?_eq_none (by simp;omega)]at e;cases e
   rw[hi]at e
   simp at e
   exact .inr ⟨by omega,e.1.symm,e.2.symm⟩
 refine⟨fun y g cp k e=>?_,fun i p b e=>?_,fun i p b i' p' b' e e' hi=>?_,fun y g cp k e ek hp i p b ei=>?_⟩
 ·have:=h.le y g cp k e
  simp
  omega
 ·rcases hg i p b e with ⟨q,e⟩ | ⟨rfl,rfl,rfl⟩
  ·exact h.pos i p b e
  ·exact⟨Nat.le_refl _,by rw[List.drop_length,undo_nil],fun y g cp k e=>h.le y g cp k e⟩
 ·rcases hg i p b e with ⟨q,e⟩ | ⟨q,q2,q3⟩
  ·rcases hg i' p' b' e' with ⟨r,e'⟩ | ⟨r,r2,r3⟩
   ·exact h.mono i p b i' p' b' e e' hi
   ·have:=(h.pos i p b e).1
    omega
  ·rcases hg i' p' b' e' with ⟨r,e'⟩ | ⟨r,r2,r3⟩
   ·omega
   ·omega
 ·have:=(h.le y g cp k e).2
  simp at ek
  omega
theorem Mk.lay0{a:Nat->Option Wr}{ss:List Sp}{ms:List Mr}(h:Mk a ss ms){g:Nat}(hc:ms=[]\/∃g' cp',a y=some (g',cp',(ms.length:Int))):Mk (fun z=>if z=y then some (g,cp,(ms.length:Int)) else a z) ss ms:=by
 have hst:ms=[]\/∀(i p:Nat) (b:Nat->Option Wr),ms[i]?=some (p,b)->∃s∈ss.drop p,s.1=y:=by
  rcases hc with e | ⟨g',cp',e⟩
  ·exact .inl e
  ·by_cases q:ms=[]
   ·exact .inl q
   ·exact .inr (fun i p b ei=>h.now y g' cp' _ e rfl (List.length_pos_iff.2 q) i p b ei)
 refine⟨fun z g2 cp2 k e=>?_,fun i p b e=>?_,h.mono,fun z g2 cp2 k e ek hp i p b ei=>?_⟩
 ·by_cases q:z=y
  ·simp[q]at e
   obtain⟨_,_,rfl⟩:=e
   omega
  ·simp[q]at e
   exact h.le z g2 cp2 k e
 ·rcases hst with q | q
  ·rw[q]at e;simp at e
  ·obtain⟨h1,h2,h3⟩:=h.pos i p b e
   exact⟨h1,by rw[undo_put (q i p b e)];exact h2,h3⟩
 ·rcases hst with q | q
  ·rw[q]at ei;simp at ei
  ·by_cases r:z=y
   ·rw[r];exact q i p b ei
   ·simp[r]at e
    exact h.now z g2 cp2 k e ek hp i p b ei
theorem Mk.lay1{a:Nat->Option Wr}{ss:List Sp}{ms:List Mr}(h:Mk a ss ms)(y g cp:Nat):Mk (fun z=>if z=y then some (g,cp,(ms.length:Int)) else a z) (ss++[(y,a y)]) ms:=by
 refine⟨fun z g2 cp2 k e=>?_,fun i p b e=>?_,h.mono,fun z g2 cp2 k e ek hp i p b ei=>?_⟩
 ·by_cases q:z=y
  ·simp[q]at e
   obtain⟨_,_,rfl⟩:=e
   omega
  ·simp[q]at e
   exact h.le z g2 cp2 k e
 ·obtain⟨h1,h2,h3⟩:=h.pos i p b e
  refine⟨by simp;omega,?_,h3⟩
  rw[List.drop_append_of_le_length h1,undo_step]
  exact h2
 ·have h1:=(h.pos i p b ei).1
  rw[List.drop_append_of_le_length h1]
  by_cases r:z=y
  ·exact⟨(y,a y),by simp,r.symm⟩
  ·simp[r]at e
   obtain⟨s,hs,es⟩:=h.now z g2 cp2 k e ek hp i p b ei
   exact⟨s,by simp[hs],es⟩
theorem Mk.back{a:Nat->Option Wr}{ss:List Sp}{ms:List Mr}(h:Mk a ss ms){b:Nat->Option Wr}(hi:ms[i]?=some (p,b)):Mk b (ss.take p) (ms.take (i+1)):=by
 obtain⟨h1,h2,h3⟩:=h.pos i p b hi
 have hil:i<ms.length:=(List.getElem?_eq_some_iff.1 hi).1
 have hlen:(ms.take (i+1)).length=i+1:=by rw[List.length_take];omega
 have hg:∀i' p' b',(ms.take (i+1))[i']?=some (p',b')->i'<=i/\ms[i']?=some (p',b'):=fun i' p' b' e=>by
  have hl:=(List.getElem?_eq_some_iff.1 e).1
  rw[hlen]at hl
  rw[List.getElem?_take_of_lt hl]at e
  exact⟨by omega,e⟩
 have hpre:∀i' p' b',i'<=i->ms[i']?=some (p',b')->undo ((ss.take p).drop p') b=b':=fun i' p' b' hle e=>by
  obtain⟨r1,r2,_⟩:=h.pos i' p' b' e
  have hpp:=h.mono i' p' b' i p b e hi hle
  have hsp:ss.drop p'=(ss.take p).drop p'++ss.drop p:=by
   conv=>lhs;rw[<- List.take_append_drop p ss]
   rw[List.drop_append_of_le_length (by rw[List.length_take];omega)]
  have hcomp:undo (ss.drop p') a=undo ((ss.take p).drop p') (undo (ss.drop p) a):=by
   rw[hsp]
   funext y
   unfold undo
   rw[List.find?_append]
   cases ((ss.take p).drop p').find? (fun s=>s.1 == y) <;> rfl
  rw[<- r2,hcomp,h2]
 refine⟨fun y g cp k e=>?_,fun i' p' b' e=>?_,fun i1 p1 b1 i2 p2 b2 e1 e2 hle=>h.mono i1 p1 b1 i2 p2 b2 (hg _ _ _ e1).2 (hg _ _ _ e2).2 hle,fun y g cp k e ek _ _ _ _ _=>?_⟩
 ·have:=h3 y g cp k e
  rw[hlen]
  omega
 ·obtain⟨hle,e⟩:=hg i' p' b' e
  obtain⟨r1,r2,r3⟩:=h.pos i' p' b' e
  exact⟨by rw[List.length_take];have:=h.mono i' p' b' i p b e hi hle;omega,hpre i' p' b' hle e,r3⟩
 ·have:=h3 y g cp k e
  rw[hlen]at ek
  omega
open Go.RowKit Go.Deep
def Xb (w:World) (x j m:Nat) (sv mv:Value):Prop:=w.heap[x]?=some (.cells #[.iface 76 (.pointer (some ⟨j,0,none⟩)),.map (some m),sv,mv] 160 (0,0))
theorem Xb.lt(h:Xb w x j m sv mv):x<w.heap.size:=(Array.getElem?_eq_some_iff.1 h).1
theorem Xb.cell(h:Xb w x j m sv mv)(t:Nat):w.cell? ⟨x,t,none⟩=#[.iface 76 (.pointer (some ⟨j,0,none⟩)),.map (some m),sv,mv][t]?:=by
 unfold Xb at h
 simp[World.cell?,h]
theorem Xb.frozen(h:Xb w x j m sv mv)(t:Nat):w.frozen? ⟨x,t,none⟩=false:=by
 unfold Xb at h
 simp[World.frozen?,h]
theorem Xb.keep(h:Xb w x j m sv mv)(hk:w'.heap[x]?=w.heap[x]?):Xb w' x j m sv mv:=hk.trans h
theorem Xb.set3(h:Xb w x j m sv mv)(v:Value):Xb (w.setCell ⟨x,3,none⟩ v) x j m sv v:=by
 unfold Xb at h ⊢
 simp only[World.setCell,Array.getElem?_modify]
 rw[h]
 simp
theorem Xb.set2(h:Xb w x j m sv mv)(v:Value):Xb (w.setCell ⟨x,2,none⟩ v) x j m v mv:=by
 unfold Xb at h ⊢
 simp only[World.setCell,Array.getElem?_modify]
 rw[h]
 simp
theorem news1(w:World)(u:Value)(t:TypeId):∀j y,[u][j]?=some y->(w.alloc (.cells #[u] t)).cell? ((⟨w.heap.size,0,none⟩:Addr).add j)=some y:=by
 intro j y hy
 match j,hy with
 | 0,hy=>
  have:u=y:=by simpa using hy
  subst this
  rw[Addr.add_lit]
  exact cell_new rfl 0 _ rfl
 | j+1,hy=>simp at hy
theorem row_ne_x{base:Nat}{v:Value}(h:w.ownsRow base e 1 v n xs)(hx:Xb w x j m sv mv)(he:e≠160)(hk:v.ownBlock=some k):k≠x:=fun q=>by
 subst q
 rcases h.2 with ⟨rfl,_⟩ | ⟨g,cap,cur,rfl,_,hg,_⟩
 ·simp[Value.ownBlock]at hk
 ·have:g=k:=by simpa [Value.ownBlock] using hk
  subst this
  unfold Xb at hx
  rw[hx]at hg
  injection hg with hg
  injection hg with _ hg
  exact he hg.symm
theorem mark_raw{sc:Nat}(hx:Xb w x j m (.slice sa ns sc) mv)(hr:w.ownsRow 0 3 1 mv M xs)(hM:M<=1073741823) :
  Calls Tryz.prog 63 #[.pointer (some ⟨x,0,none⟩)] w fun e w'=>e=.returned (.int .i64 (M:Int))/\∃g cap,Xb w' x j m (.slice sa ns sc) (.slice (some ⟨g,0,none⟩) (M+1) cap)/\w'.ownsRow 0 3 1 (.slice (some ⟨g,0,none⟩) (M+1) cap) (M+1) (xs++[.int .i64 (ns:Int)])/\(mv.ownBlock=some g\/w.heap.size<=g)/\But (fun k=>k=x\/mv.ownBlock=some k) w w':=by
 obtain⟨PO,hPO⟩:∃PO:Ending->World->Prop,PO=fun e w'=>e=.returned (.int .i64 (M:Int))/\∃g cap,Xb w' x j m (.slice sa ns sc) (.slice (some ⟨g,0,none⟩) (M+1) cap)/\w'.ownsRow 0 3 1 (.slice (some ⟨g,0,none⟩) (M+1) cap) (M+1) (xs++[.int .i64 (ns:Int)])/\(mv.ownBlock=some g\/w.heap.size<=g)/\But (fun k=>k=x\/mv.ownBlock=some k) w w':=⟨_,rfl⟩
 rw[<- hPO]
 obtain⟨i3,hi3,hz3,hs3,hb3⟩:=info_parts info3
 have hxl:=hx.lt
 have x2:=hx.cell 2
 have x3:=hx.cell 3
 simp at x2 x3
 obtain⟨wA,hwA⟩:∃wA,wA=w.alloc (.cells #[.int .i64 (ns:Int)] 3):=⟨_,rfl⟩
 have bA:Below w.heap.size w wA:=by rw[hwA];exact (Below.refl _ _).alloc (Nat.le_refl _) _
 have zA:wA.heap.size=w.heap.size+1:=by rw[hwA];simp
 have x2A:(w.alloc (.cells #[.int .i64 (ns:Int)] 3)).drew.cell? ⟨x,2,none⟩=some (.slice sa ns sc):=by rw[<- hwA];exact (bA.cell (p:=⟨x,2,none⟩) hxl).trans x2
 have x3A:(w.alloc (.cells #[.int .i64 (ns:Int)] 3)).drew.cell? ⟨x,3,none⟩=some mv:=by rw[<- hwA];exact (bA.cell (p:=⟨x,3,none⟩) hxl).trans x3
 have HRowA:Hid ((w.alloc (.cells #[.int .i64 (ns:Int)] 3)).drew.ownsRow 0 3 1 mv M xs):=by rw[<- hwA];exact owns_below hr bA.drew
 have HN:Hid (∀w6 g4 cap4,w6.ownsRow 0 3 1 (.slice (some ⟨g4,0,none⟩) (M+1) cap4) (M+1) (xs++[.int .i64 (ns:Int)])->(w.alloc (.cells #[.int .i64 (ns:Int)] 3)).drew.grownBy w6 mv.ownBlock->(mv.ownBlock=some g4\/g4=w.heap.size+1)->w6.cell? ⟨x,2,none⟩=some (.slice sa ns sc)/\w6.cell? ⟨x,3,none⟩=some mv/\w6.frozen? ⟨x,3,none⟩=false/\(w6.setCell ⟨x,3,none⟩ (.slice (some ⟨g4,0,none⟩) (M+1) cap4)).cell? ⟨x,2,none⟩=some (.slice sa ns sc)/\∃g cap,(w6.setCell ⟨x,3,none⟩ (.slice (some ⟨g4,0,none⟩) (M+1) cap4)).cell? ⟨x,3,none⟩=some (.slice (some ⟨g,0,none⟩) (M+1) cap)/\PO (.returned (.int .i64 (M:Int))) (w6.setCell ⟨x,3,none⟩ (.slice (some ⟨g4,0,none⟩) (M+1) cap4))):=fun w6 g4 cap4 ho hg hl=>by
  rw[<- hwA]at hg
  have bg:But (fun k=>mv.ownBlock=some k) wA w6:=(But.refl _ wA).drew.of_grown hg (fun k e _=>e)
  have sg:=bg.size
  have hxn:¬mv.ownBlock=some x:=fun e=>row_ne_x hr hx (by decide) e rfl
  have hx6:Xb w6 x j m (.slice sa ns sc) mv:=hx.keep ((bg.block x (by omega) hxn).trans (bA.block x hxl))
  have hs6:=hx6.set3 (.slice (some ⟨g4,0,none⟩) (M+1) cap4)
  have hg4x:g4≠x:=by
   rcases hl with e | e
   ·exact row_ne_x hr hx (by decide) e
   ·omega
  have bs:But (fun k=>k=x) w6 (w6.setCell ⟨x,3,none⟩ (.slice (some ⟨g4,0,none⟩) (M+1) cap4)):=(But.refl (fun k=>k=x) w6).setCell (p:=⟨x,3,none⟩) rfl _
  have c2:=hs6.cell 2
  have c3:=hs6.cell 3
  have d2:=hx6.cell 2
  have d3:=hx6.cell 3
  simp at c2 c3 d2 d3
  refine⟨d2,d3,hx6.frozen 3,c2,g4,cap4,c3,?_⟩
  rw[hPO]
  refine⟨rfl,g4,cap4,hs6,owns_keep ho (fun k e=>?_),hl.imp id (fun e=>by omega),?_⟩
  ·have:g4=k:=by simpa [Value.ownBlock] using e
   subst this
   exact bs.block g4 (World.ownsRow.lt ho g4 rfl).2 hg4x
  ·exact (((But.of_below bA (X:=fun k=>k=x\/mv.ownBlock=some k)).comp bg (fun _ _ q=>.inr q))).comp bs (fun _ _ q=>.inl q)
 clear hwA bA zA hPO hx hr
 go_enter Tryz.func63,Tryz.ntmps63
 go_upto_region 1 with fail
 go_cut [2] (fun s2 wx=>∃g cap,s2=.int .i64 0/\wx.cell? ⟨x,3,none⟩=some (.slice (some ⟨g,0,none⟩) (M+1) cap)/\PO (.returned (.int .i64 (M:Int))) wx)
 case first=>
  refine wp_region_noPanic ?_
  refine wp_region_held_drew (S:=fun w'=>w'.cell? ⟨x,2,none⟩=some (.slice sa ns sc)) (by kernel_rfl) x2 (fun hSS=>?_)
  refine tk 0 (some 3) (.move (.tmp 0)) 122 none hSS ?_
  refine tk 1 (some 4) (.move (.tmp 0)) 122 none hSS ?_
  refine tk 2 (some 5) (.nilCheck (.tmp 4)) 0 none hSS ?_
  refine tk 3 (some 6) (.fieldAddr 160 (.tmp 5) 3) 0 none hSS ?_
  try simp only[Act.put,zA,zB,zC]
  refine tk 5 (some 8) (.move (.tmp 0)) 122 none hSS ?_
  refine tk 6 (some 9) (.nilCheck (.tmp 8)) 0 none hSS ?_
  refine tk 7 (some 10) (.fieldAddr 160 (.tmp 9) 2) 0 none hSS ?_
  refine tk 8 (some 11) (.load 158 (.tmp 10)) 158 none hSS ?_
  try simp only[Act.put,zA,zB,zC]
  refine tk 9 (some 12) (.call { callee:=.builtin .len,args:=#[.tmp 11],argTypes:=#[158] }) 3 none hSS ?_
  try simp only[Act.put,zA,zB,zC]
  refine wpAnyH_ready (rs:=[4,10]) (by kernel_rfl) (by simp) (AllReadyH.cons (o:=({ dst:=some 7,op:=Op.load 37 (Operand.tmp 6),type:=37,pos:=_,after:=_,guard:=none }:Oper)) rfl (fun K9 hK9=>?_) (AllReadyH.cons (o:=({ dst:=some 13,op:=Op.buildSlice 37 1 #[(0,Operand.tmp 12)],type:=37,pos:=_,after:=_,guard:=none }:Oper)) rfl (fun K9 hK9=>?_) AllReadyH.nil))
  ·go_simp
   refine hK9.out _ _ hSS (fun hSS=>?_)
   clear hK9 K9
   try simp only[Act.put,zA,zB,zC]
   refine wpAnyH_ready (rs:=[10]) (by kernel_rfl) (by simp) (AllReadyH.cons (o:=({ dst:=some 13,op:=Op.buildSlice 37 1 #[(0,Operand.tmp 12)],type:=37,pos:=_,after:=_,guard:=none }:Oper)) rfl (fun K9 hK9=>?_) AllReadyH.nil)
   go_simp
   refine hK9.out _ _ x2A (fun hSS=>?_)
   clear hK9 K9
   try simp only[Act.put,zA,zB,zC]
   refine wpAnyH_ready (rs:=[11]) (by kernel_rfl) (by simp) (AllReadyH.cons (o:=({ dst:=some 14,op:=Op.call { callee:=Callee.builtin Builtin.append,args:=#[Operand.tmp 7,Operand.tmp 13],argTypes:=#[37,37] },type:=37,pos:=_,after:=_,guard:=none }:Oper)) rfl (fun K9 hK9=>?_) AllReadyH.nil)
   refine step_append_lies _ (by rfl) _ _ _ (by rfl) 0 3 i3 (.int .i64 0) 1 8 Tryz.underlying37 hi3 hz3 hs3 hb3 rfl (by decide) _ M _ (by rfl) (by exact HRowA.out) ⟨w.heap.size,0,none⟩ 1 1 [.int .i64 (ns:Int)] (by rfl) (by rfl) (by exact news1 w _ _) (by intro u hu;simp at hu;subst hu;rfl) (by decide) (by unfold maxLen;omega) (by omega) (by simp) (w.heap.size+1) (by simp) ?_
   intro g4 cap4 w6 ho4 hg4 hlie4 _
   obtain⟨y2,y3,yf,yS,hF⟩:=HN.out w6 g4 cap4 ho4 hg4 hlie4
   have HF:=hid hF
   clear ho4 hg4 hlie4 hF HN
   dsimp [Act.put]
   refine hK9.out _ _ y2 (fun hSS=>?_)
   clear hK9 K9
   try simp only[List.setIfInBounds_toArray,List.set_cons_zero,List.set_cons_succ]
   refine tk 12 (some 15) (.nilCheck (.tmp 3)) 0 none hSS ?_
   refine tk 13 (some 16) (.fieldAddr 160 (.tmp 15) 3) 0 none hSS ?_
   try simp only[Act.put,zA,zB,zC]
   refine wpAnyH_ready (rs:=[14]) (by kernel_rfl) (by simp) (AllReadyH.cons (o:=({ dst:=none,op:=Op.store 37 (Operand.tmp 16) (Operand.tmp 14),type:=0,pos:=_,after:=_,guard:=none }:Oper)) rfl (fun K9 hK9=>?_) AllReadyH.nil)
   go_simp
   refine hK9.out _ _ yS (fun hSS=>?_)
   clear hK9 K9
   try simp only[Act.put,zA,zB,zC]
   refine wpAnyH_done (by kernel_rfl) (NoPanic.normal ?_) _
   clear hSS
   go_wp2_with fail
   go_meet
   obtain⟨g,cap,hF1⟩:=HF.out
   exact⟨g,cap,rfl,hF1⟩
  ·go_simp
   refine hK9.out _ _ x2A (fun hSS=>?_)
   clear hK9 K9
   try simp only[Act.put,zA,zB,zC]
   refine wpAnyH_ready (rs:=[4]) (by kernel_rfl) (by simp) (AllReadyH.cons (o:=({ dst:=some 7,op:=Op.load 37 (Operand.tmp 6),type:=37,pos:=_,after:=_,guard:=none }:Oper)) rfl (fun K9 hK9=>?_) AllReadyH.nil)
   go_simp
   refine hK9.out _ _ hSS (fun hSS=>?_)
   clear hK9 K9
   try simp only[Act.put,zA,zB,zC]
   refine wpAnyH_ready (rs:=[11]) (by kernel_rfl) (by simp) (AllReadyH.cons (o:=({ dst:=some 14,op:=Op.call { callee:=Callee.builtin Builtin.append,args:=#[Operand.tmp 7,Operand.tmp 13],argTypes:=#[37,37] },type:=37,pos:=_,after:=_,guard:=none }:Oper)) rfl (fun K9 hK9=>?_) AllReadyH.nil)
   refine step_append_lies _ (by rfl) _ _ _ (by rfl) 0 3 i3 (.int .i64 0) 1 8 Tryz.underlying37 hi3 hz3 hs3 hb3 rfl (by decide) _ M _ (by rfl) (by exact HRowA.out) ⟨w.heap.size,0,none⟩ 1 1 [.int .i64 (ns:Int)] (by rfl) (by rfl) (by exact news1 w _ _) (by intro u hu;simp at hu;subst hu;rfl) (by decide) (by unfold maxLen;omega) (by omega) (by simp) (w.heap.size+1) (by simp) ?_
   intro g4 cap4 w6 ho4 hg4 hlie4 _
   obtain⟨y2,y3,yf,yS,hF⟩:=HN.out w6 g4 cap4 ho4 hg4 hlie4
   have HF:=hid hF
   clear ho4 hg4 hlie4 hF HN
   dsimp [Act.put]
   refine hK9.out _ _ y2 (fun hSS=>?_)
   clear hK9 K9
   try simp only[List.setIfInBounds_toArray,List.set_cons_zero,List.set_cons_succ]
   refine tk 12 (some 15) (.nilCheck (.tmp 3)) 0 none hSS ?_
   refine tk 13 (some 16) (.fieldAddr 160 (.tmp 15) 3) 0 none hSS ?_
   try simp only[Act.put,zA,zB,zC]
   refine wpAnyH_ready (rs:=[14]) (by kernel_rfl) (by simp) (AllReadyH.cons (o:=({ dst:=none,op:=Op.store 37 (Operand.tmp 16) (Operand.tmp 14),type:=0,pos:=_,after:=_,guard:=none }:Oper)) rfl (fun K9 hK9=>?_) AllReadyH.nil)
   go_simp
   refine hK9.out _ _ yS (fun hSS=>?_)
   clear hK9 K9
   try simp only[Act.put,zA,zB,zC]
   refine wpAnyH_done (by kernel_rfl) (NoPanic.normal ?_) _
   clear hSS
   go_wp2_with fail
   go_meet
   obtain⟨g,cap,hF1⟩:=HF.out
   exact⟨g,cap,rfl,hF1⟩
 case rest=>
 rename World=>wq
 obtain⟨g,cap,rfl,k3,hF⟩:=hcut
 have FIN:=hid hF
 clear hF HN HRowA x2 x3 x2A x3A
 go_wp2_with fail
 exact FIN.out
end Go.Proofs.YthfojpcibnfmgaaGreat
