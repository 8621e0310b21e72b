import Derived.Test.YthfojpcibnfmgaaGreatV00
import Derived.Test.YthfojpcibnfmgaaGreatV18
import Derived.Test.YthfojpcibnfmgaaGreatV11
import Derived.Deep.AppendLies
set_option maxRecDepth 100000
set_option maxHeartbeats 16000000
namespace Go.Proofs.YthfojpcibnfmgaaGreat
variable {M cp e i j k m n ns p sc x y:Nat}
variable {w w':World}
variable {mv sv:Value}
variable {xs:List Value}
variable {sa:Option Addr}
abbrev Wr:=Nat×Nat×Int
abbrev Sp:=Nat×Option Wr
abbrev Mr:=Nat×(Nat->Option Wr)
def undo (ss:List Sp) (a:Nat->Option Wr):Nat->Option Wr:=fun y=>match ss.find? (fun s=>s.1 == y) with
 | some s=>s.2
 | none=>a y
def back1 (s:Sp) (a:Nat->Option Wr):Nat->Option Wr:=fun y=>if y=s.1 then s.2 else a y
theorem undo_nil(a:Nat->Option Wr):undo [] a=a:=rfl
theorem undo_snoc(ss:List Sp)(s:Sp)(a:Nat->Option Wr):undo (ss++[s]) a=undo ss (back1 s a):=by
 funext y
 unfold undo back1
 rw[List.find?_append]
 cases h:ss.find? (fun s=>s.1 == y) with
 | some t=>rfl
 | none=>
  simp only[Option.none_or,List.find?_cons,List.find?_nil]
  by_cases e:s.1=y
  ·simp[e]
  ·have:(s.1 == y)=false:=by simpa using e
   rw[this]
   simp[Ne.symm e]
theorem undo_put{ss:List Sp}(h:∃s∈ss,s.1=y)(a:Nat->Option Wr)(r:Option Wr):undo ss (fun z=>if z=y then r else a z)=undo ss a:=by
 funext z
 unfold undo
 cases h2:ss.find? (fun s=>s.1 == z) with
 | some t=>rfl
 | none=>
  obtain⟨s,hs,e⟩:=h
  have:=List.find?_eq_none.1 h2 s hs
  have hz:z≠y:=fun q=>this (by simp[q,e])
  simp[hz]
theorem undo_step(ss:List Sp)(y:Nat)(a:Nat->Option Wr)(r:Option Wr):undo (ss++[(y,a y)]) (fun z=>if z=y then r else a z)=undo ss a:=by
 rw[undo_snoc]
 congr 1
 funext z
 unfold back1
 by_cases e:z=y
 ·simp[e]
 ·simp[e]
structure Mk (a:Nat->Option Wr) (ss:List Sp) (ms:List Mr):Prop where
 le:∀y g cp k,a y=some (g,cp,k)->0<=k/\k<=(ms.length:Int)
 pos:∀(i p:Nat) (b:Nat->Option Wr),ms[i]?=some (p,b)->p<=ss.length/\undo (ss.drop p) a=b/\∀y g cp k,b y=some (g,cp,k)->0<=k/\k<=(i:Int)
 mono:∀(i p:Nat) (b:Nat->Option Wr) (i' p':Nat) (b':Nat->Option Wr),ms[i]?=some (p,b)->ms[i']?=some (p',b')->i<=i'->p<=p'
 now:∀y g cp k,a y=some (g,cp,k)->k=(ms.length:Int)->0<ms.length->∀(i p:Nat) (b:Nat->Option Wr),ms[i]?=some (p,b)->∃s∈ss.drop p,s.1=y
theorem Mk.nil:Mk (fun _=>none) [] []:=⟨(fun _ _ _ _ e=>by cases e),(fun i p b e=>by simp at e),(fun i p b i' p' b' e=>by simp at e),(fun _ _ _ _ e=>by cases e)⟩
theorem Mk.mark{a:Nat->Option Wr}{ss:List Sp}{ms:List Mr}(h:Mk a ss ms):Mk a ss (ms++[(ss.length,a)]):=by
 have hg:∀i p b,(ms++[(ss.length,a)])[i]?=some (p,b)->(i<ms.length/\ms[i]?=some (p,b))\/(i=ms.length/\p=ss.length/\b=a):=fun i p b e=>by
  rw[List.getElem?_append]at e
  split at e
  ·rename_i q;exact .inl ⟨q,e⟩
  ·rename_i q
   have hi:i-ms.length=0:=by
    rcases Nat.eq_zero_or_pos (i-ms.length) with z | z
    ·exact z
    ·rw[List.getElem?_eq_none (by simp;omega)]at e;cases e
   rw[hi]at e
   simp at e
   exact .inr ⟨by omega,e.1.symm,e.2.symm⟩
 refine⟨fun y g cp k e=>?_,fun i p b e=>?_,fun i p b i' p' b' e e' hi=>?_,fun y g cp k e ek hp i p b ei=>?_⟩
 ·have:=h.le y g cp k e
  simp
  omega
 ·rcases hg i p b e with ⟨q,e⟩ | ⟨rfl,rfl,rfl⟩
  ·exact h.pos i p b e
  ·exact⟨Nat.le_refl _,by rw[List.drop_length,undo_nil],fun y g cp k e=>h.le y g cp k e⟩
 ·rcases hg i p b e with ⟨q,e⟩ | ⟨q,q2,q3⟩
  ·rcases hg i' p' b' e' with ⟨r,e'⟩ | ⟨r,r2,r3⟩
   ·exact h.mono i p b i' p' b' e e' hi
   ·have:=(h.pos i p b e).1
    omega
  ·rcases hg i' p' b' e' with ⟨r,e'⟩ | ⟨r,r2,r3⟩
   ·omega
   ·omega
 ·have:=(h.le y g cp k e).2
  simp at ek
  omega
theorem Mk.lay0{a:Nat->Option Wr}{ss:List Sp}{ms:List Mr}(h:Mk a ss ms){g:Nat}(hc:ms=[]\/∃g' cp',a y=some (g',cp',(ms.length:Int))):Mk (fun z=>if z=y then some (g,cp,(ms.length:Int)) else a z) ss ms:=by
 have hst:ms=[]\/∀(i p:Nat) (b:Nat->Option Wr),ms[i]?=some (p,b)->∃s∈ss.drop p,s.1=y:=by
  rcases hc with e | ⟨g',cp',e⟩
  ·exact .inl e
  ·by_cases q:ms=[]
   ·exact .inl q
   ·exact .inr (fun i p b ei=>h.now y g' cp' _ e rfl (List.length_pos_iff.2 q) i p b ei)
 refine⟨fun z g2 cp2 k e=>?_,fun i p b e=>?_,h.mono,fun z g2 cp2 k e ek hp i p b ei=>?_⟩
 ·by_cases q:z=y
  ·simp[q]at e
   obtain⟨_,_,rfl⟩:=e
   omega
  ·simp[q]at e
   exact h.le z g2 cp2 k e
 ·rcases hst with q | q
  ·rw[q]at e;simp at e
  ·obtain⟨h1,h2,h3⟩:=h.pos i p b e
   exact⟨h1,by rw[undo_put (q i p b e)];exact h2,h3⟩
 ·rcases hst with q | q
  ·rw[q]at ei;simp at ei
  ·by_cases r:z=y
   ·rw[r];exact q i p b ei
   ·simp[r]at e
    exact h.now z g2 cp2 k e ek hp i p b ei
theorem Mk.lay1{a:Nat->Option Wr}{ss:List Sp}{ms:List Mr}(h:Mk a ss ms)(y g cp:Nat):Mk (fun z=>if z=y then some (g,cp,(ms.length:Int)) else a z) (ss++[(y,a y)]) ms:=by
 refine⟨fun z g2 cp2 k e=>?_,fun i p b e=>?_,h.mono,fun z g2 cp2 k e ek hp i p b ei=>?_⟩
 ·by_cases q:z=y
  ·simp[q]at e
   obtain⟨_,_,rfl⟩:=e
   omega
  ·simp[q]at e
   exact h.le z g2 cp2 k e
 ·obtain⟨h1,h2,h3⟩:=h.pos i p b e
  refine⟨by simp;omega,?_,h3⟩
  rw[List.drop_append_of_le_length h1,undo_step]
  exact h2
 ·have h1:=(h.pos i p b ei).1
  rw[List.drop_append_of_le_length h1]
  by_cases r:z=y
  ·exact⟨(y,a y),by simp,r.symm⟩
  ·simp[r]at e
   obtain⟨s,hs,es⟩:=h.now z g2 cp2 k e ek hp i p b ei
   exact⟨s,by simp[hs],es⟩
theorem Mk.back{a:Nat->Option Wr}{ss:List Sp}{ms:List Mr}(h:Mk a ss ms){b:Nat->Option Wr}(hi:ms[i]?=some (p,b)):Mk b (ss.take p) (ms.take (i+1)):=by
 obtain⟨h1,h2,h3⟩:=h.pos i p b hi
 have hil:i<ms.length:=(List.getElem?_eq_some_iff.1 hi).1
 have hlen:(ms.take (i+1)).length=i+1:=by rw[List.length_take];omega
 have hg:∀i' p' b',(ms.take (i+1))[i']?=some (p',b')->i'<=i/\ms[i']?=some (p',b'):=fun i' p' b' e=>by
  have hl:=(List.getElem?_eq_some_iff.1 e).1
  rw[hlen]at hl
  rw[List.getElem?_take_of_lt hl]at e
  exact⟨by omega,e⟩
 have hpre:∀i' p' b',i'<=i->ms[i']?=some (p',b')->undo ((ss.take p).drop p') b=b':=fun i' p' b' hle e=>by
  obtain⟨r1,r2,_⟩:=h.pos i' p' b' e
  have hpp:=h.mono i' p' b' i p b e hi hle
  have hsp:ss.drop p'=(ss.take p).drop p'++ss.drop p:=by
   conv=>lhs;rw[<- List.take_append_drop p ss]
   rw[List.drop_append_of_le_length (by rw[List.length_take];omega)]
  have hcomp:undo (ss.drop p') a=undo ((ss.take p).drop p') (undo (ss.drop p) a):=by
   rw[hsp]
   funext y
   unfold undo
   rw[List.find?_append]
   cases ((ss.take p).drop p').find? (fun s=>s.1 == y) <;> rfl
  rw[<- r2,hcomp,h2]
 refine⟨fun y g cp k e=>?_,fun i' p' b' e=>?_,fun i1 p1 b1 i2 p2 b2 e1 e2 hle=>h.mono i1 p1 b1 i2 p2 b2 (hg _ _ _ e1).2 (hg _ _ _ e2).2 hle,fun y g cp k e ek _ _ _ _ _=>?_⟩
 ·have:=h3 y g cp k e
  rw[hlen]
  omega
 ·obtain⟨hle,e⟩:=hg i' p' b' e
  obtain⟨r1,r2,r3⟩:=h.pos i' p' b' e
  exact⟨by rw[List.length_take];have:=h.mono i' p' b' i p b e hi hle;omega,hpre i' p' b' hle e,r3⟩
 ·have:=h3 y g cp k e
  rw[hlen]at ek
  omega
open Go.RowKit Go.Deep
def Xb (w:World) (x j m:Nat) (sv mv:Value):Prop:=w.heap[x]?=some (.cells #[.iface 76 (.pointer (some ⟨j,0,none⟩)),.map (some m),sv,mv] 160 (0,0))
theorem Xb.lt(h:Xb w x j m sv mv):x<w.heap.size:=(Array.getElem?_eq_some_iff.1 h).1
theorem Xb.cell(h:Xb w x j m sv mv)(t:Nat):w.cell? ⟨x,t,none⟩=#[.iface 76 (.pointer (some ⟨j,0,none⟩)),.map (some m),sv,mv][t]?:=by
 unfold Xb at h
 simp[World.cell?,h]
theorem Xb.frozen(h:Xb w x j m sv mv)(t:Nat):w.frozen? ⟨x,t,none⟩=false:=by
 unfold Xb at h
 simp[World.frozen?,h]
theorem Xb.keep(h:Xb w x j m sv mv)(hk:w'.heap[x]?=w.heap[x]?):Xb w' x j m sv mv:=hk.trans h
theorem Xb.set3(h:Xb w x j m sv mv)(v:Value):Xb (w.setCell ⟨x,3,none⟩ v) x j m sv v:=by
 unfold Xb at h ⊢
 simp only[World.setCell,Array.getElem?_modify]
 rw[h]
 simp
theorem Xb.set2(h:Xb w x j m sv mv)(v:Value):Xb (w.setCell ⟨x,2,none⟩ v) x j m v mv:=by
 unfold Xb at h ⊢
 simp only[World.setCell,Array.getElem?_modify]
 rw[h]
 simp
theorem news1(w:World)(u:Value)(t:TypeId):∀j y,[u][j]?=some y->(w.alloc (.cells #[u] t)).cell? ((⟨w.heap.size,0,none⟩:Addr).add j)=some y:=by
 intro j y hy
 match j,hy with
 | 0,hy=>
  have:u=y:=by simpa using hy
  subst this
  rw[Addr.add_lit]
  exact cell_new rfl 0 _ rfl
 | j+1,hy=>simp at hy
theorem row_ne_x{base:Nat}{v:Value}(h:w.ownsRow base e 1 v n xs)(hx:Xb w x j m sv mv)(he:e≠160)(hk:v.ownBlock=some k):k≠x:=fun q=>by
 subst q
 rcases h.2 with ⟨rfl,_⟩ | ⟨g,cap,cur,rfl,_,hg,_⟩
 ·simp[Value.ownBlock]at hk
 ·have:g=k:=by simpa [Value.ownBlock] using hk
  subst this
  unfold Xb at hx
  rw[hx]at hg
  injection hg with hg
  injection hg with _ hg
  exact he hg.symm
theorem mark_raw(hx:Xb w x j m (.slice sa ns sc) mv)(hr:w.ownsRow 0 3 1 mv M xs)(hM:M<=1073741823) :
  Calls Tryz.prog 63 #[.pointer (some ⟨x,0,none⟩)] w fun e w'=>e=.returned (.int .i64 (M:Int))/\∃g cap,Xb w' x j m (.slice sa ns sc) (.slice (some ⟨g,0,none⟩) (M+1) cap)/\w'.ownsRow 0 3 1 (.slice (some ⟨g,0,none⟩) (M+1) cap) (M+1) (xs++[.int .i64 (ns:Int)])/\(mv.ownBlock=some g\/w.heap.size<=g)/\But (fun k=>k=x\/mv.ownBlock=some k) w w':=by
 obtain⟨PO,hPO⟩:∃PO:Ending->World->Prop,PO=fun e w'=>e=.returned (.int .i64 (M:Int))/\∃g cap,Xb w' x j m (.slice sa ns sc) (.slice (some ⟨g,0,none⟩) (M+1) cap)/\w'.ownsRow 0 3 1 (.slice (some ⟨g,0,none⟩) (M+1) cap) (M+1) (xs++[.int .i64 (ns:Int)])/\(mv.ownBlock=some g\/w.heap.size<=g)/\But (fun k=>k=x\/mv.ownBlock=some k) w w':=⟨_,rfl⟩
 rw[<- hPO]
 obtain⟨i3,hi3,hz3,hs3,hb3⟩:=info_parts info3
 have hxl:=hx.lt
 have x2:=hx.cell 2
 have x3:=hx.cell 3
 simp at x2 x3
 obtain⟨wA,hwA⟩:∃wA,wA=w.alloc (.cells #[.int .i64 (ns:Int)] 3):=⟨_,rfl⟩
 have bA:Below w.heap.size w wA:=by rw[hwA];exact (Below.refl _ _).alloc (Nat.le_refl _) _
 have zA:wA.heap.size=w.heap.size+1:=by rw[hwA];simp
 have x2A:(w.alloc (.cells #[.int .i64 (ns:Int)] 3)).drew.cell? ⟨x,2,none⟩=some (.slice sa ns sc):=by rw[<- hwA];exact (bA.cell (p:=⟨x,2,none⟩) hxl).trans x2
 have x3A:(w.alloc (.cells #[.int .i64 (ns:Int)] 3)).drew.cell? ⟨x,3,none⟩=some mv:=by rw[<- hwA];exact (bA.cell (p:=⟨x,3,none⟩) hxl).trans x3
 have HRowA:Hid ((w.alloc (.cells #[.int .i64 (ns:Int)] 3)).drew.ownsRow 0 3 1 mv M xs):=by rw[<- hwA];exact owns_below hr bA.drew
 have HN:Hid (∀w6 g4 cap4,w6.ownsRow 0 3 1 (.slice (some ⟨g4,0,none⟩) (M+1) cap4) (M+1) (xs++[.int .i64 (ns:Int)])->(w.alloc (.cells #[.int .i64 (ns:Int)] 3)).drew.grownBy w6 mv.ownBlock->(mv.ownBlock=some g4\/g4=w.heap.size+1)->w6.cell? ⟨x,2,none⟩=some (.slice sa ns sc)/\w6.cell? ⟨x,3,none⟩=some mv/\w6.frozen? ⟨x,3,none⟩=false/\(w6.setCell ⟨x,3,none⟩ (.slice (some ⟨g4,0,none⟩) (M+1) cap4)).cell? ⟨x,2,none⟩=some (.slice sa ns sc)/\∃g cap,(w6.setCell ⟨x,3,none⟩ (.slice (some ⟨g4,0,none⟩) (M+1) cap4)).cell? ⟨x,3,none⟩=some (.slice (some ⟨g,0,none⟩) (M+1) cap)/\PO (.returned (.int .i64 (M:Int))) (w6.setCell ⟨x,3,none⟩ (.slice (some ⟨g4,0,none⟩) (M+1) cap4))):=fun w6 g4 cap4 ho hg hl=>by
  rw[<- hwA]at hg
  have bg:But (fun k=>mv.ownBlock=some k) wA w6:=(But.refl _ wA).drew.of_grown hg (fun k e _=>e)
  have sg:=bg.size
  have hxn:¬mv.ownBlock=some x:=fun e=>row_ne_x hr hx (by decide) e rfl
  have hx6:Xb w6 x j m (.slice sa ns sc) mv:=hx.keep ((bg.block x (by omega) hxn).trans (bA.block x hxl))
  have hs6:=hx6.set3 (.slice (some ⟨g4,0,none⟩) (M+1) cap4)
  have hg4x:g4≠x:=by
   rcases hl with e | e
   ·exact row_ne_x hr hx (by decide) e
   ·omega
  have bs:But (fun k=>k=x) w6 (w6.setCell ⟨x,3,none⟩ (.slice (some ⟨g4,0,none⟩) (M+1) cap4)):=(But.refl (fun k=>k=x) w6).setCell (p:=⟨x,3,none⟩) rfl _
  have c2:=hs6.cell 2
  have c3:=hs6.cell 3
  have d2:=hx6.cell 2
  have d3:=hx6.cell 3
  simp at c2 c3 d2 d3
  refine⟨d2,d3,hx6.frozen 3,c2,g4,cap4,c3,?_⟩
  rw[hPO]
  refine⟨rfl,g4,cap4,hs6,owns_keep ho (fun k e=>?_),hl.imp id (fun e=>by omega),?_⟩
  ·have:g4=k:=by simpa [Value.ownBlock] using e
   subst this
   exact bs.block g4 (World.ownsRow.lt ho g4 rfl).2 hg4x
  ·exact (((But.of_below bA (X:=fun k=>k=x\/mv.ownBlock=some k)).comp bg (fun _ _ q=>.inr q))).comp bs (fun _ _ q=>.inl q)
 clear hwA bA zA hPO hx hr
 go_enter Tryz.func63,Tryz.ntmps63
 go_upto_region 1 with fail
 go_cut [2] (fun s2 wx=>∃g cap,s2=.int .i64 0/\wx.cell? ⟨x,3,none⟩=some (.slice (some ⟨g,0,none⟩) (M+1) cap)/\PO (.returned (.int .i64 (M:Int))) wx)
 case first=>
  refine wp_region_noPanic ?_
  refine Gz (S:=fun w'=>w'.cell? ⟨x,2,none⟩=some (.slice sa ns sc)) x2 (fun hSS=>?_)
  refine Ti 0 rfl ?_
  refine Ti 1 rfl ?_
  refine Ti 2 rfl ?_
  refine Ti 3 rfl ?_
  try simp only[Act.put,zA,zB,zC]
  refine Ti 5 rfl ?_
  refine Ti 6 rfl ?_
  refine Ti 7 rfl ?_
  refine Ti 8 rfl ?_
  try simp only[Act.put,zA,zB,zC]
  refine Ti 9 rfl ?_
  try simp only[Act.put,zA,zB,zC]
  refine Rr 4 10 rfl rfl (fun K9 hK9=>?_) (fun K9 hK9=>?_)
  ·go_simp
   refine hK9.out _ _ hSS (fun hSS=>?_)
   try simp only[Act.put,zA,zB,zC]
   refine Ri 10 rfl (fun K9 hK9=>?_)
   go_simp
   refine hK9.out _ _ x2A (fun hSS=>?_)
   try simp only[Act.put,zA,zB,zC]
   refine Ri 11 rfl (fun K9 hK9=>?_)
   refine step_append_lies _ (by rfl) _ _ _ (by rfl) 0 3 i3 (.int .i64 0) 1 8 Tryz.underlying37 hi3 hz3 hs3 hb3 rfl (by decide) _ M _ (by rfl) (by exact HRowA.out) ⟨w.heap.size,0,none⟩ 1 1 [.int .i64 (ns:Int)] (by rfl) (by rfl) (by exact news1 w _ _) (by intro u hu;simp at hu;subst hu;rfl) (by decide) (by unfold maxLen;omega) (by omega) (by simp) (w.heap.size+1) (by simp) ?_
   intro g4 cap4 w6 ho4 hg4 hlie4 _
   obtain⟨y2,y3,yf,yS,hF⟩:=HN.out w6 g4 cap4 ho4 hg4 hlie4
   have HF:=hid hF
   clear ho4 hg4 hlie4 hF HN
   dsimp [Act.put]
   refine hK9.out _ _ y2 (fun hSS=>?_)
   try simp only[List.setIfInBounds_toArray,List.set_cons_zero,List.set_cons_succ]
   refine Ti 12 rfl ?_
   refine Ti 13 rfl ?_
   try simp only[Act.put,zA,zB,zC]
   refine Ri 14 rfl (fun K9 hK9=>?_)
   go_simp
   refine hK9.out _ _ yS (fun hSS=>?_)
   try simp only[Act.put,zA,zB,zC]
   refine Dn (NoPanic.normal ?_)
   clear hSS
   go_wp2_with fail
   go_meet
   obtain⟨g,cap,hF1⟩:=HF.out
   exact⟨g,cap,rfl,hF1⟩
  ·go_simp
   refine hK9.out _ _ x2A (fun hSS=>?_)
   try simp only[Act.put,zA,zB,zC]
   refine Ri 4 rfl (fun K9 hK9=>?_)
   go_simp
   refine hK9.out _ _ hSS (fun hSS=>?_)
   try simp only[Act.put,zA,zB,zC]
   refine Ri 11 rfl (fun K9 hK9=>?_)
   refine step_append_lies _ (by rfl) _ _ _ (by rfl) 0 3 i3 (.int .i64 0) 1 8 Tryz.underlying37 hi3 hz3 hs3 hb3 rfl (by decide) _ M _ (by rfl) (by exact HRowA.out) ⟨w.heap.size,0,none⟩ 1 1 [.int .i64 (ns:Int)] (by rfl) (by rfl) (by exact news1 w _ _) (by intro u hu;simp at hu;subst hu;rfl) (by decide) (by unfold maxLen;omega) (by omega) (by simp) (w.heap.size+1) (by simp) ?_
   intro g4 cap4 w6 ho4 hg4 hlie4 _
   obtain⟨y2,y3,yf,yS,hF⟩:=HN.out w6 g4 cap4 ho4 hg4 hlie4
   have HF:=hid hF
   clear ho4 hg4 hlie4 hF HN
   dsimp [Act.put]
   refine hK9.out _ _ y2 (fun hSS=>?_)
   try simp only[List.setIfInBounds_toArray,List.set_cons_zero,List.set_cons_succ]
   refine Ti 12 rfl ?_
   refine Ti 13 rfl ?_
   try simp only[Act.put,zA,zB,zC]
   refine Ri 14 rfl (fun K9 hK9=>?_)
   go_simp
   refine hK9.out _ _ yS (fun hSS=>?_)
   try simp only[Act.put,zA,zB,zC]
   refine Dn (NoPanic.normal ?_)
   clear hSS
   go_wp2_with fail
   go_meet
   obtain⟨g,cap,hF1⟩:=HF.out
   exact⟨g,cap,rfl,hF1⟩
 case rest=>
 rename World=>wq
 obtain⟨g,cap,rfl,k3,hF⟩:=hcut
 have FIN:=hid hF
 clear hF HN HRowA x2 x3 x2A x3A
 go_wp2_with fail
 exact FIN.out
end Go.Proofs.YthfojpcibnfmgaaGreat
