import Derived.Test.YtlefjidbpjkhlaaGreatK50
import Derived.Deep.DeepCutAuto
set_option maxRecDepth 100000
set_option maxHeartbeats 16000000
namespace Go.Proofs.YtlefjidbpjkhlaaGreat
variable {X Y Y':Nat->Prop}
variable {W W' w w0:World}
variable {F:Cf}
variable {B K N c f1 g1 i k m n o q r0 r1 sz t x0 x1:Nat}
variable {C:Nat->List Int}
variable {L:Nat->Option (List Int)}
variable {Ms:List (Nat->Option (List Int))}
variable {zs:List Int}
variable {v:Value}
variable {xs:List Value}
variable {Rs:List (Value×List Int)}
variable {ct:Nat->Int}
variable {PO:Ending->World->Prop}
open Go.RowKit Go.Deep
def KpE (o gm cm nm g1 n1 c1:Nat) (PO:Ending->World->Prop) (W:World):Prop :=
 ∃st2 y0,W.cell? ⟨o,1,none⟩=some (.pointer (some ⟨st2,0,none⟩))/\Calls Tryz.prog 9 #[.pointer (some ⟨st2,0,none⟩)] W fun e w1=>∃t2,e=.returned (.tuple #[.pointer (some ⟨t2,0,none⟩),.int .i64 0])/\w1.cell? ⟨o,3,none⟩=some (.pointer (some ⟨y0,0,none⟩))/\Calls Tryz.prog 23 #[.pointer (some ⟨y0,0,none⟩),.pointer (some ⟨t2,0,none⟩)] w1 fun e w2=>∃gn cn y1 v0,e=.returned (.slice (some ⟨gn,0,none⟩) nm cn)/\(3<=nm/\nm<=cn/\nm<=cm/\nm<=1000000)/\(w2.drew.cell? ⟨o,4,none⟩=some (.pointer (some ⟨y1,0,none⟩))/\w2.drew.cell? ⟨gn,0,none⟩=some (.int .i64 v0)/\w2.drew.cell? ⟨gm,0,none⟩=some (.int .i64 v0))/\Calls Tryz.prog 23 #[.pointer (some ⟨y1,0,none⟩),.pointer (some ⟨t2,0,none⟩)] w2.drew fun e w3=>∃g3 c3,e=.returned (.slice (some ⟨g3,0,none⟩) n1 c3)/\(w3.cell? ⟨o,4,none⟩=some (.pointer (some ⟨y1,0,none⟩))/\w3.cell? ⟨gn,0,none⟩=some (.int .i64 v0)/\w3.cell? ⟨gm,0,none⟩=some (.int .i64 v0))/\Calls Tryz.prog 28 #[.slice (some ⟨g3,0,none⟩) n1 c3,.slice (some ⟨g1,0,none⟩) n1 c1] w3 fun e w4=>e=.returned (.bool true)/\(w4.cell? ⟨o,4,none⟩=some (.pointer (some ⟨y1,0,none⟩))/\w4.cell? ⟨gn,0,none⟩=some (.int .i64 v0)/\w4.cell? ⟨gm,0,none⟩=some (.int .i64 v0))/\∃u1 u2,u2<=u1/\(w4.drew.cell? ⟨gn,1,none⟩=some (.int .i64 u1)/\w4.drew.cell? ⟨gm,1,none⟩=some (.int .i64 u2))/\Calls Tryz.prog 28 #[.slice (some ⟨gn,2,none⟩) (nm-2) (cn-2),.slice (some ⟨gm,2,none⟩) (nm-2) (cm-2)] w4.drew fun e w5=>e=.returned (.bool true)/\(w5.cell? ⟨gn,1,none⟩=some (.int .i64 u1)/\w5.cell? ⟨gm,1,none⟩=some (.int .i64 u2))/\PO (.returned (.bool true)) w5
def KpD (o ab q:Nat) (aq bq:Int) (nx:World->Prop) (W:World):Prop :=
 ∃st2,(W.drew.cell? ⟨o,1,none⟩=some (.pointer (some ⟨st2,0,none⟩))/\W.drew.cell? ⟨ab,q,none⟩=some (.int .i64 aq))/\Calls Tryz.prog 30 #[.pointer (some ⟨st2,0,none⟩),.int .i64 aq] W.drew fun e w1=>∃g cp,e=.returned (.tuple #[.slice (some ⟨g,0,none⟩) 512 cp,.int .i64 0])/\(w1.cell? ⟨o,1,none⟩=some (.pointer (some ⟨st2,0,none⟩))/\w1.cell? ⟨ab,q,none⟩=some (.int .i64 aq))/\Calls Tryz.prog 32 #[.int .i64 bq] w1 fun e w2=>∃g2,e=.returned (.slice (some ⟨g2,0,none⟩) 512 512)/\Calls Tryz.prog 31 #[.slice (some ⟨g,0,none⟩) 512 cp,.slice (some ⟨g2,0,none⟩) 512 512] w2 fun e w3=>e=.returned (.bool true)/\nx w3
def KpC (o x0 x1 t g1 n1 c1 ab:Nat) (b1:Int) (PO:Ending->World->Prop) (W:World):Prop :=
 W.cell? ⟨o,3,none⟩=some (.pointer (some ⟨x0,0,none⟩))/\Calls Tryz.prog 23 #[.pointer (some ⟨x0,0,none⟩),.pointer (some ⟨t,0,none⟩)] W fun e w1=>∃gm nm cm,e=.returned (.slice (some ⟨gm,0,none⟩) nm cm)/\w1.cell? ⟨o,4,none⟩=some (.pointer (some ⟨x1,0,none⟩))/\Calls Tryz.prog 23 #[.pointer (some ⟨x1,0,none⟩),.pointer (some ⟨t,0,none⟩)] w1 fun e w2=>∃g2 c2,e=.returned (.slice (some ⟨g2,0,none⟩) n1 c2)/\Calls Tryz.prog 28 #[.slice (some ⟨g2,0,none⟩) n1 c2,.slice (some ⟨g1,0,none⟩) n1 c1] w2 fun e w3=>e=.returned (.bool true)/\Calls Tryz.prog 13 #[.pointer (some ⟨t,0,none⟩)] w3 fun e w4=>e=.returned (.int .i64 0)/\Calls Tryz.prog 29 #[.pointer (some ⟨o,0,none⟩)] w4 fun e w5=>e=.returned (.bool true)/\KpD o ab 0 64 900 (KpD o ab 1 b1 901 (KpE o gm cm nm g1 n1 c1 PO)) w5
def KpA (o x0 t r0:Nat) (sb so i:Nat) (nx:World->Prop) (W:World):Prop :=
 ∃wh kd b tt,(W.cell? ⟨sb,so+i * 4,none⟩=some (.int .i64 wh)/\W.cell? ⟨sb,so+i * 4+1,none⟩=some (.int .i64 kd)/\W.cell? ⟨sb,so+i * 4+2,none⟩=some (.int .i64 b)/\W.cell? ⟨sb,so+i * 4+3,none⟩=some (.int .i64 tt))/\∀ak W',ak=W.heap.size->W'=W.alloc (.cells #[.int .i64 wh,.int .i64 kd,.int .i64 b,.int .i64 tt] 60) ->
  (kd=6->W'.cell? ⟨o,3,none⟩=some (.pointer (some ⟨x0,0,none⟩))/\Calls Tryz.prog 24 #[.pointer (some ⟨x0,0,none⟩),.pointer (some ⟨t,0,none⟩)] W' fun e w1=>∃v,e=.returned v/\nx w1) /\
  (kd=7->(W'.drew.cell? ⟨o,3,none⟩=some (.pointer (some ⟨x0,0,none⟩))/\W'.drew.cell? ⟨ak,2,none⟩=some (.int .i64 b))/\Calls Tryz.prog 25 #[.pointer (some ⟨x0,0,none⟩),.pointer (some ⟨t,0,none⟩),.int .i64 b] W'.drew fun e w1=>∃v,e=.returned v/\(w1.cell? ⟨o,3,none⟩=some (.pointer (some ⟨x0,0,none⟩))/\w1.cell? ⟨ak,2,none⟩=some (.int .i64 b))/\nx w1) /\
  (kd=8->(W'.drew.cell? ⟨o,3,none⟩=some (.pointer (some ⟨x0,0,none⟩))/\W'.drew.cell? ⟨ak,2,none⟩=some (.int .i64 b))/\Calls Tryz.prog 26 #[.pointer (some ⟨x0,0,none⟩),.pointer (some ⟨t,0,none⟩),.int .i64 b] W'.drew fun e w1=>∃v,e=.returned v/\(w1.cell? ⟨o,3,none⟩=some (.pointer (some ⟨x0,0,none⟩))/\w1.cell? ⟨ak,2,none⟩=some (.int .i64 b))/\nx w1) /\
  (kd=12->(W'.drew.cell? ⟨o,3,none⟩=some (.pointer (some ⟨x0,0,none⟩))/\W'.drew.cell? ⟨ak,2,none⟩=some (.int .i64 b))/\Calls Tryz.prog 27 #[.pointer (some ⟨x0,0,none⟩),.pointer (some ⟨t,0,none⟩),.int .i64 b] W'.drew fun e w1=>∃v,e=.returned v/\(w1.cell? ⟨o,3,none⟩=some (.pointer (some ⟨x0,0,none⟩))/\w1.cell? ⟨ak,2,none⟩=some (.int .i64 b))/\nx w1) /\
  (kd=13->(W'.drew.cell? ⟨o,5,none⟩=some (.int .i64 65)/\W'.drew.cell? ⟨o,7,none⟩=some (.int .i64 (r0:Int))/\W'.drew.cell? ⟨ak,2,none⟩=some (.int .i64 b))/\Calls Tryz.prog 18 #[.pointer (some ⟨t,0,none⟩),.int .i64 65,.int .i64 (r0:Int),.int .i64 b] W'.drew fun e w1=>∃v,e=.returned v/\(w1.cell? ⟨o,5,none⟩=some (.int .i64 65)/\w1.cell? ⟨o,7,none⟩=some (.int .i64 (r0:Int))/\w1.cell? ⟨ak,2,none⟩=some (.int .i64 b))/\nx w1) /\
  (kd≠6->kd≠7->kd≠8->kd≠12->kd≠13->nx W')
def KpB (o x0 x1 f1 r0 r1 p1:Nat) (M:Nat) (sb so:Nat) (PO:Ending->World->Prop) (W:World):Prop :=
 (W.drew.cell? ⟨o,5,none⟩=some (.int .i64 65)/\W.drew.cell? ⟨o,6,none⟩=some (.int .i64 (f1:Int))/\W.drew.cell? ⟨o,8,none⟩=some (.int .i64 (r1:Int)))/\Calls Tryz.prog 21 #[.int .i64 (r1:Int)] W.drew fun e w3=>e=.returned (.int .i64 (p1:Int))/\(w3.cell? ⟨o,5,none⟩=some (.int .i64 65)/\w3.cell? ⟨o,6,none⟩=some (.int .i64 (f1:Int))/\w3.cell? ⟨o,8,none⟩=some (.int .i64 (r1:Int)))/\((w3.alloc (.cells #[.int .i64 64,(.int .i64 ((f1:Int)+(p1:Int)))] 3)).cell? ⟨o,5,none⟩=some (.int .i64 65)/\(w3.alloc (.cells #[.int .i64 64,(.int .i64 ((f1:Int)+(p1:Int)))] 3)).cell? ⟨o,6,none⟩=some (.int .i64 (f1:Int))/\(w3.alloc (.cells #[.int .i64 64,(.int .i64 ((f1:Int)+(p1:Int)))] 3)).cell? ⟨o,8,none⟩=some (.int .i64 (r1:Int)))/\∀ab,ab=w3.heap.size->Calls Tryz.prog 22 #[.pointer (some ⟨o,0,none⟩),.slice (some ⟨ab,0,none⟩) 2 2] (w3.alloc (.cells #[.int .i64 64,(.int .i64 ((f1:Int)+(p1:Int)))] 3)) fun e w4=>e=.returned (.bool true)/\∃st,w4.cell? ⟨o,1,none⟩=some (.pointer (some ⟨st,0,none⟩))/\Calls Tryz.prog 9 #[.pointer (some ⟨st,0,none⟩)] w4 fun e w5=>∃t,e=.returned (.tuple #[.pointer (some ⟨t,0,none⟩),.int .i64 0])/\w5.cell? ⟨o,4,none⟩=some (.pointer (some ⟨x1,0,none⟩))/\Calls Tryz.prog 23 #[.pointer (some ⟨x1,0,none⟩),.pointer (some ⟨t,0,none⟩)] w5 fun e w6=>∃g1 n1 c1,e=.returned (.slice (some ⟨g1,0,none⟩) n1 c1)/\∃LO:Nat->World->Prop,LO 0 w6/\(∀i W,i<M->LO i W->KpA o x0 t r0 sb so i (LO (i+1)) W)/\(∀W,LO M W->KpC o x0 x1 t g1 n1 c1 ab ((f1:Int)+(p1:Int)) PO W)
open Go.RowKit Go.Deep
theorem OpnZ.write{Z:Nat}(h:OpnZ Y w F Z N C t L Ms)(hZ:Z<16000000)(y:Nat)(hy1:64<=y)(hy2:y<F.nb)(xa:Option Addr)(xc:Nat)(zs:List Int)(hR:RdN Y w xa 512 zs) :
  Calls Tryz.prog 52 #[.pointer (some ⟨t,0,none⟩),.int .i64 (y:Int),.slice xa 512 xc] w fun e w'=>∃Y',e=.returned (.int .i64 0)/\OpnZ Y' w' F (Z+1) N C t (putL L y zs) Ms/\Gr Y Y' w/\But Y w w':=by
 obtain⟨K,n,h1,h2,h3⟩:=h
 refine Calls.mono (h3.write (by omega) (by omega) y hy1 hy2 xa xc zs hR) ?_
 rintro e w' ⟨Y',rfl,q1,q2,q3⟩
 exact⟨Y',rfl,⟨K+1,n+2,by omega,by omega,q1⟩,q2,q3⟩
theorem row_rdi{g:Nat}(h:w.ownsRow B 3 1 (.slice (some ⟨g,0,none⟩) n c) n ((zs).map (Value.int .i64))):RdI w.heap.size w (some ⟨g,0,none⟩) n zs/\n<=c:=by
 have hl:=h.1
 rw[List.length_map,Nat.mul_one]at hl
 rcases h.2 with ⟨q,_⟩ | ⟨g',c',cur,q,_,hg,hc,_,_,q2⟩
 ·cases q
 ·cases q
  refine⟨⟨hl,.inr ⟨g,0,rfl,(Array.getElem?_eq_some_iff.1 hg).1,fun t ht=>?_⟩⟩,hc⟩
  have e:(cur.toList.take (n * 1))[t]?=some (.int .i64 (zs.getD t 0)):=by
   rw[q2,List.getElem?_map,List.getD_eq_getElem?_getD,List.getElem?_eq_getElem (by omega)]
   rfl
  rw[List.getElem?_take_of_lt (by omega)]at e
  simp only[World.cell?,hg]
  simpa using e
theorem RdI.drop{g:Nat}(h:RdI B w (some ⟨g,0,none⟩) n zs)(k:Nat)(hk:k<=n):RdI B w (some ⟨g,k,none⟩) (n-k) (zs.drop k):=by
 refine⟨by rw[List.length_drop,h.1],?_⟩
 rcases h.2 with q | ⟨b,off,e,hl,hc⟩
 ·exact .inl (by omega)
 ·cases e
  refine .inr ⟨g,k,rfl,hl,fun t ht=>?_⟩
  have:=hc (k+t) (by omega)
  rw[Nat.zero_add]at this
  rw[this,List.getD_eq_getElem?_getD,List.getD_eq_getElem?_getD,List.getElem?_drop]
theorem RdI.at{g:Nat}(h:RdI B w (some ⟨g,0,none⟩) n zs)(hk:k<n){v:Int}(hv:zs[k]?=some v):w.cell? ⟨g,k,none⟩=some (.int .i64 v):=by
 rcases h.2 with q | ⟨b,off,e,hl,hc⟩
 ·omega
 ·cases e
  have:=hc k hk
  rw[Nat.zero_add,List.getD_eq_getElem?_getD,hv]at this
  exact this
theorem row_some(h:w.ownsRow B 3 1 v n xs)(hn:0<n):∃g c,v=.slice (some ⟨g,0,none⟩) n c:=by
 rcases h.2 with ⟨_,q⟩ | ⟨g',c',cur,q,_⟩
 ·omega
 ·exact⟨g',c',q⟩
structure KsS (w0:World) (o:Nat) (cs:Array Value) (x0 x1:Nat) (F:Cf) (f1 r0 r1:Nat) (Rs:List (Value×List Int)) (Y:Nat->Prop) (W:World):Prop where
 bel:Below w0.heap.size w0 W
 y:∀k,Y k->w0.heap.size<=k
 wb:Wlb W o cs
 no:¬Y o
 s0:Spb W x0 65 r0 F.st
 n0:¬Y x0
 s1:Spb W x1 f1 r1 F.st
 n1:¬Y x1
 rs:∀p∈Rs,W.ownsRow w0.heap.size 3 1 p.1 p.2.length ((p.2).map (Value.int .i64))/\∀q,p.1.ownBlock=some q->¬Y q
theorem KsS.step{cs:Array Value}(h:KsS w0 o cs x0 x1 F f1 r0 r1 Rs Y W)(hb:But Y W W')(hg:Gr Y Y' W):KsS w0 o cs x0 x1 F f1 r0 r1 Rs Y' W':=by
 have hol:=h.wb.lt
 have h0:=h.s0.lt
 have h1:=h.s1.lt
 have s0:=h.bel.size
 refine⟨h.bel.trans (hb.below s0 (fun k hk q=>by have:=h.y k q;omega)),fun k q=>?_,h.wb.keep (hb.block o hol h.no),fun q=>h.no (hg o hol q),h.s0.keep (hb.block x0 h0 h.n0),fun q=>h.n0 (hg x0 h0 q),h.s1.keep (hb.block x1 h1 h.n1),fun q=>h.n1 (hg x1 h1 q),fun p hp=>?_⟩
 ·rcases Nat.lt_or_ge k W.heap.size with hk | hk
  ·exact h.y k (hg k hk q)
  ·omega
 ·obtain⟨a1,a2⟩:=h.rs p hp
  exact⟨owns_keep a1 (fun g' e=>hb.block g' (World.ownsRow.lt a1 g' e).2 (a2 g' e)),fun q e e2=>a2 q e (hg q (World.ownsRow.lt a1 q e).2 e2)⟩
theorem KsS.below{cs:Array Value}(h:KsS w0 o cs x0 x1 F f1 r0 r1 Rs Y W)(b:Below W.heap.size W W'):KsS w0 o cs x0 x1 F f1 r0 r1 Rs Y W':=h.step (But.of_below b) (fun _ _ q=>q)
theorem KsS.push{cs:Array Value}(h:KsS w0 o cs x0 x1 F f1 r0 r1 Rs Y W)(hr:W.ownsRow B 3 1 v zs.length ((zs).map (Value.int .i64)))(hB:w0.heap.size<=B)(hn:∀q,v.ownBlock=some q->¬Y q):KsS w0 o cs x0 x1 F f1 r0 r1 ((v,zs) :: Rs) Y W:=by
 refine⟨h.bel,h.y,h.wb,h.no,h.s0,h.n0,h.s1,h.n1,fun p hp=>?_⟩
 rcases List.mem_cons.1 hp with rfl | hp
 ·exact⟨owns_base hr hB,hn⟩
 ·exact h.rs p hp
theorem frA_self(cs:Nat->Int)(sz:Nat):frA cs (fun _=>0) sz=frA cs cs sz:=by
 unfold frA
 refine List.filter_congr (fun b _=>?_)
 simp
open Go.RowKit Go.Deep
theorem rdn_blk{g:Nat}{x:Int}(h:Blk .u8 5 w g (blkZ x))(hX:¬X g):RdN X w (some ⟨g,0,none⟩) 512 (blkZ x):=by
 have:=RdN.of_blk h (isB_blkZ x) hX
 rwa [length_blkZ]at this
theorem marked_any{cs:Array Value}{Z:Nat}{ab y1:Nat}(i:IdlZ Y W F Z N C)(k:KsS w0 o cs x0 x1 F f1 r0 r1 Rs Y W)(hc1:cs[1]?=some (.pointer (some ⟨F.st,0,none⟩)))(hab:(.slice (some ⟨ab,0,none⟩) 2 2,[64,(y1:Int)])∈Rs)(hy:64<y1/\y1<F.nb)(hm:y1<64+m/\m<=28)(hZ:Z+3<16000000)(hN:N<1000000) :
  Calls Tryz.prog 22 #[.pointer (some ⟨o,0,none⟩),.slice (some ⟨ab,0,none⟩) 2 2] W fun e W'=>e=.returned (.bool true)/\∃Y',IdlZ Y' W' F (Z+2) (N+1) (fun y=>(putL (putL (fun _=>none) 64 (blkZ 900)) y1 (blkZ 901) y).getD (C y))/\KsS w0 o cs x0 x1 F f1 r0 r1 Rs Y' W'/\Gr Y Y' W:=by
 have cel:∀ {Y2:Nat->Prop} {W2:World},KsS w0 o cs x0 x1 F f1 r0 r1 Rs Y2 W2->W2.cell? ⟨ab,0,none⟩=some (.int .i64 64)/\W2.cell? ⟨ab,1,none⟩=some (.int .i64 (y1:Int)):=fun k2=>by
  have:=(row_rdi (k2.rs _ hab).1).1
  exact⟨this.at (by decide) rfl,this.at (by decide) rfl⟩
 refine marked_walk (st:=F.st) (a0:=64) (a1:=(y1:Int)) (by rw[k.wb.cell,hc1]) ?_
 refine Calls.mono i.begin ?_
 rintro e w1 ⟨t,Y1,rfl,o1,_,g1,b1⟩
 have k1:=k.step b1 g1
 have d1:=Below.drew1 w1
 refine⟨t,rfl,(cel (k1.below d1)).1,Calls.mono (Block_any 900 w1.drew) ?_⟩
 rintro e w2 ⟨ga,rfl,hga,hBa,b2⟩
 have k2:=(k1.below d1).below b2
 have o2:=(o1.below d1).below b2
 have na:¬Y1 ga:=fun q=>by have:=o1.lt _ q;have:w1.drew.heap.size=w1.heap.size:=rfl;omega
 refine⟨ga,rfl,(cel k2).1,Calls.mono (o2.write (by omega) 64 (Nat.le_refl _) (by omega) _ _ _ (rdn_blk hBa na)) ?_⟩
 rintro e w3 ⟨Y3,rfl,o3,g3,b3⟩
 have k3:=k2.step b3 g3
 have d3:=Below.drew1 w3
 refine⟨rfl,(cel k3).1,(cel (k3.below d3)).2,Calls.mono (Block_any 901 w3.drew) ?_⟩
 rintro e w4 ⟨gb,rfl,hgb,hBb,b4⟩
 have k4:=(k3.below d3).below b4
 have o4:=(o3.below d3).below b4
 have nb:¬Y3 gb:=fun q=>by have:=o3.lt _ q;have:w3.drew.heap.size=w3.heap.size:=rfl;omega
 refine⟨gb,rfl,(cel k4).2,Calls.mono (o4.write (by omega) y1 (by omega) hy.2 _ _ _ (rdn_blk hBb nb)) ?_⟩
 rintro e w5 ⟨Y5,rfl,o5,g5,b5⟩
 have k5:=k4.step b5 g5
 refine⟨rfl,(cel k5).2,?_⟩
 refine Calls.mono (o5.commit (f:=64) (m:=m) (by omega) hm.2 (fun y hy'=>?_)) ?_
 ·unfold putL at hy'
  by_cases e1:y=y1
  ·omega
  ·rw[if_neg e1]at hy'
   by_cases e2:y=64
   ·omega
   ·rw[if_neg e2]at hy'
    cases hy'
 ·rintro e w6 ⟨Y6,rfl,i6,g6,b6⟩
  have s1:=b1.size
  have s2:=b2.size
  have s3:=b3.size
  have s4:=b4.size
  have s5:=b5.size
  have e1:w1.drew.heap.size=w1.heap.size:=rfl
  have e3:w3.drew.heap.size=w3.heap.size:=rfl
  exact⟨rfl,rfl,Y6,i6,k5.step b6 g6,fun q hq e=>g1 q hq (g3 q (by omega) (g5 q (by omega) (g6 q (by omega) e)))⟩
def KpL (w0:World) (o:Nat) (cs:Array Value) (x0 x1:Nat) (F:Cf) (f1 r0 r1:Nat) (Rs:List (Value×List Int)) (t N zb:Nat) (C:Nat->List Int) (ct:Nat->Int) (i:Nat) (W:World):Prop :=
 ∃Y L sz cn,OpnZ Y W F (zb+i) N C t L []/\Tst C L 65 r0 F.nb (zb+i) sz cn ct/\(∀y,y<65\/65+pagesN r0<=y->L y=none)/\KsS w0 o cs x0 x1 F f1 r0 r1 Rs Y W
theorem KpL.act{cs:Array Value}{zb:Nat}{sb so:Nat}(h:KpL w0 o cs x0 x1 F f1 r0 r1 Rs t N zb C ct i W)(hz:zb+i<16000000)(hp:pagesN r0<=28)(hc3:cs[3]?=some (.pointer (some ⟨x0,0,none⟩)))(hc5:cs[5]?=some (.int .i64 65))(hc7:cs[7]?=some (.int .i64 (r0:Int)))(hsb:sb<w0.heap.size)(hcl:∃wh kd b tt:Int,w0.cell? ⟨sb,so+i * 4,none⟩=some (.int .i64 wh)/\w0.cell? ⟨sb,so+i * 4+1,none⟩=some (.int .i64 kd)/\w0.cell? ⟨sb,so+i * 4+2,none⟩=some (.int .i64 b)/\w0.cell? ⟨sb,so+i * 4+3,none⟩=some (.int .i64 tt)) :
  KpA o x0 t r0 sb so i (KpL w0 o cs x0 x1 F f1 r0 r1 Rs t N zb C ct (i+1)) W:=by
 obtain⟨Y,L,sz,cn,hO,hT,hL,hk⟩:=h
 obtain⟨Z,hZ⟩:∃Z,Z=zb+i:=⟨_,rfl⟩
 have hZ1:zb+(i+1)=Z+1:=by omega
 rw[<- hZ]at hO hT
 obtain⟨wh,kd,b,tt,e0,e1,e2,e3⟩:=hcl
 have hr:=hT.hP.hr
 have hsz:=hT.sz1
 refine⟨wh,kd,b,tt,⟨(hk.bel.cell (p:=⟨sb,_,none⟩) hsb).trans e0,(hk.bel.cell (p:=⟨sb,_,none⟩) hsb).trans e1,(hk.bel.cell (p:=⟨sb,_,none⟩) hsb).trans e2,(hk.bel.cell (p:=⟨sb,_,none⟩) hsb).trans e3⟩,fun ak W' hak hW'=>?_⟩
 have bA:Below W.heap.size W W':=by rw[hW'];exact (Below.refl _ _).alloc (Nat.le_refl _) _
 have hkb:W'.heap[ak]?=some (.cells #[.int .i64 wh,.int .i64 kd,.int .i64 b,.int .i64 tt] 60 (0,0)):=by rw[hW',hak];exact Array.getElem?_push_size
 have hkA:=hk.below bA
 have hOA:=hO.below bA
 have nak:¬Y ak:=fun q=>by have:=hO.lt _ q;omega
 have dr:=Below.drew1 W'
 have hkD:=hkA.below dr
 have hOD:=hOA.below dr
 have hkbD:W'.drew.heap[ak]?=some (.cells #[.int .i64 wh,.int .i64 kd,.int .i64 b,.int .i64 tt] 60 (0,0)):=hkb
 have hal:=(Array.getElem?_eq_some_iff.1 hkbD).1
 have akc:∀w1,But Y W'.drew w1->w1.cell? ⟨ak,2,none⟩=some (.int .i64 b):=fun w1 b1=>by
  have:=(b1.block ak hal nak).trans hkbD
  simp[World.cell?,this]
 have SAk:∀w1 Y1,But Y W'.drew w1->Gr Y Y1 W'.drew->w1.cell? ⟨o,3,none⟩=some (.pointer (some ⟨x0,0,none⟩))/\w1.cell? ⟨ak,2,none⟩=some (.int .i64 b):=fun w1 Y1 b1 g1=>⟨by rw[(hkD.step b1 g1).wb.cell,hc3],akc w1 b1⟩
 have SFk:∀w1 Y1,But Y W'.drew w1->Gr Y Y1 W'.drew->w1.cell? ⟨o,5,none⟩=some (.int .i64 65)/\w1.cell? ⟨o,7,none⟩=some (.int .i64 (r0:Int))/\w1.cell? ⟨ak,2,none⟩=some (.int .i64 b):=fun w1 Y1 b1 g1=>⟨by rw[(hkD.step b1 g1).wb.cell,hc5],by rw[(hkD.step b1 g1).wb.cell,hc7],akc w1 b1⟩
 have NX:∀w1 Y1 L1 sz1 cn1,OpnZ Y1 w1 F (Z+1) N C t L1 []->Tst C L1 65 r0 F.nb (Z+1) sz1 cn1 ct->(∀y,y<65\/65+pagesN r0<=y->L1 y=L y)->But Y W'.drew w1->Gr Y Y1 W'.drew->KpL w0 o cs x0 x1 F f1 r0 r1 Rs t N zb C ct (i+1) w1:=fun w1 Y1 L1 sz1 cn1 q1 q2 q3 b1 g1=>⟨Y1,L1,sz1,cn1,by rw[hZ1];exact q1,by rw[hZ1];exact q2,fun y hy=>(q3 y hy).trans (hL y hy),hkD.step b1 g1⟩
 refine⟨fun _=>⟨by rw[hkA.wb.cell,hc3],?_⟩,fun _=>⟨SAk _ Y (But.refl _ _) (fun _ _ q=>q),?_⟩,fun _=>⟨SAk _ Y (But.refl _ _) (fun _ _ q=>q),?_⟩,fun _=>⟨SAk _ Y (But.refl _ _) (fun _ _ q=>q),?_⟩,fun _=>⟨SFk _ Y (But.refl _ _) (fun _ _ q=>q),?_⟩,fun _ _ _ _ _=>⟨Y,L,sz,cn,hOA.mono (by omega),hT.mono (by omega),hL,hkA⟩⟩
 ·refine Calls.mono (hOA.alloc hkA.s0 hkA.n0 (by omega) hT) ?_
  rintro e w1 ⟨Y1,L1,cs1,hc,q1,q2,q3,q4,q5⟩
  have fin:KpL w0 o cs x0 x1 F f1 r0 r1 Rs t N zb C ct (i+1) w1:=⟨Y1,L1,sz,cs1,by rw[hZ1];exact q1,by rw[hZ1];exact q2,fun y hy=>(q3 y hy).trans (hL y hy),hkA.step q5 q4⟩
  rcases hc with ⟨rfl,_,_⟩ | ⟨b',rfl,_,_⟩
  ·exact⟨_,rfl,fin⟩
  ·exact⟨_,rfl,fin⟩
 ·by_cases hb:1<=b/\b<=(sz:Int)
  ·obtain⟨bn,rfl⟩:∃bn:Nat,b=(bn:Int):=⟨b.toNat,by omega⟩
   refine Calls.mono (hOD.ref hkD.s0 hkD.n0 (by omega) hT bn (by omega)) ?_
   rintro e w1 ⟨Y1,L1,cs1,hc,q1,q2,q3,q4,q5⟩
   rcases hc with ⟨rfl,_,_⟩ | ⟨rfl,_,_⟩ | ⟨rfl,_,_⟩
   ·exact⟨_,rfl,SAk w1 Y1 q5 q4,NX w1 Y1 L1 _ _ q1 q2 q3 q5 q4⟩
   ·exact⟨_,rfl,SAk w1 Y1 q5 q4,NX w1 Y1 L1 _ _ q1 q2 q3 q5 q4⟩
   ·exact⟨_,rfl,SAk w1 Y1 q5 q4,NX w1 Y1 L1 _ _ q1 q2 q3 q5 q4⟩
  ·refine Calls.mono (hOD.refN hkD.s0 hkD.n0 (by omega) hT b hb) ?_
   rintro e w1 ⟨Y1,rfl,q1,q4,q5⟩
   exact⟨_,rfl,SAk w1 Y1 q5 q4,NX w1 Y1 L _ _ q1 (hT.mono (by omega)) (fun _ _=>rfl) q5 q4⟩
 ·by_cases hb:1<=b/\b<=(sz:Int)
  ·obtain⟨bn,rfl⟩:∃bn:Nat,b=(bn:Int):=⟨b.toNat,by omega⟩
   refine Calls.mono (hOD.unref hkD.s0 hkD.n0 (by omega) hT bn (by omega)) ?_
   rintro e w1 ⟨Y1,L1,cs1,hc,q1,q2,q3,q4,q5⟩
   rcases hc with ⟨rfl,_,_⟩ | ⟨rfl,_,_⟩
   ·exact⟨_,rfl,SAk w1 Y1 q5 q4,NX w1 Y1 L1 _ _ q1 q2 q3 q5 q4⟩
   ·exact⟨_,rfl,SAk w1 Y1 q5 q4,NX w1 Y1 L1 _ _ q1 q2 q3 q5 q4⟩
  ·refine Calls.mono (hOD.unrefN hkD.s0 hkD.n0 (by omega) hT b hb) ?_
   rintro e w1 ⟨Y1,rfl,q1,q4,q5⟩
   exact⟨_,rfl,SAk w1 Y1 q5 q4,NX w1 Y1 L _ _ q1 (hT.mono (by omega)) (fun _ _=>rfl) q5 q4⟩
 ·by_cases hb:(sz:Int)<b/\b<=(r0:Int)
  ·obtain⟨bn,rfl⟩:∃bn:Nat,b=(bn:Int):=⟨b.toNat,by omega⟩
   refine Calls.mono (hOD.grow hkD.s0 hkD.n0 (by omega) hT bn (by omega)) ?_
   rintro e w1 ⟨Y1,L1,rfl,q1,q2,q3,q4,q5⟩
   exact⟨_,rfl,SAk w1 Y1 q5 q4,NX w1 Y1 L1 _ _ q1 q2 q3 q5 q4⟩
  ·refine Calls.mono (hOD.growN hkD.s0 hkD.n0 (by omega) hT b (by omega)) ?_
   rintro e w1 ⟨Y1,rfl,q1,q4,q5⟩
   exact⟨_,rfl,SAk w1 Y1 q5 q4,NX w1 Y1 L _ _ q1 (hT.mono (by omega)) (fun _ _=>rfl) q5 q4⟩
 ·by_cases hb:1<=b/\b<=(r0:Int)
  ·obtain⟨bn,rfl⟩:∃bn:Nat,b=(bn:Int):=⟨b.toNat,by omega⟩
   refine Calls.mono (hOD.format (by omega) hT hp bn (by omega)) ?_
   rintro e w1 ⟨Y1,L1,rfl,q1,q2,q3,q4,q5⟩
   exact⟨_,rfl,SFk w1 Y1 q5 q4,NX w1 Y1 L1 _ _ q1 q2 q3 q5 q4⟩
  ·refine Calls.mono (hOD.formatN (by omega) hT b (by omega)) ?_
   rintro e w1 ⟨Y1,rfl,q1,q4,q5⟩
   exact⟨_,rfl,SFk w1 Y1 q5 q4,NX w1 Y1 L _ _ q1 (hT.mono (by omega)) (fun _ _=>rfl) q5 q4⟩
open Go.RowKit Go.Deep
theorem kpd_any{cs:Array Value}{ab y:Nat}{bq:Int}{nx:World->Prop}(i:Idl Y W F K N C)(k:KsS w0 o cs x0 x1 F f1 r0 r1 Rs Y W)(hc1:cs[1]?=some (.pointer (some ⟨F.st,0,none⟩)))(hab:(.slice (some ⟨ab,0,none⟩) 2 2,zs)∈Rs)(hq:q<2/\zs.length=2)(hzq:zs[q]?=some (y:Int))(hy:64<=y/\y<F.nb)(hK:K<4611686018427387904)(hC:C y=blkZ bq)(hn:∀Y' W',Idl Y' W' F (K+1) N C->KsS w0 o cs x0 x1 F f1 r0 r1 Rs Y' W'->nx W'):KpD o ab q (y:Int) bq nx W:=by
 have cel:∀ {Y2:Nat->Prop} {W2:World},KsS w0 o cs x0 x1 F f1 r0 r1 Rs Y2 W2->W2.cell? ⟨o,1,none⟩=some (.pointer (some ⟨F.st,0,none⟩))/\W2.cell? ⟨ab,q,none⟩=some (.int .i64 (y:Int)):=fun k2=>by
  have h1:=(k2.rs _ hab).1
  rw[hq.2]at h1
  exact⟨by rw[k2.wb.cell,hc1],(row_rdi h1).1.at hq.1 hzq⟩
 have dr:=Below.drew1 W
 refine⟨F.st,cel (k.below dr),Calls.mono ((i.below dr).sread hK y hy.1 hy.2) ?_⟩
 rintro e w1 ⟨g,cp,Y1,rfl,r1,r2,r3,r4,r5,r6,r7⟩
 have k1:=(k.below dr).step r7 r6
 refine⟨g,cp,rfl,cel k1,Calls.mono (Block_any bq w1) ?_⟩
 rintro e w2 ⟨g2,rfl,h2,hB,b2⟩
 have hR1:=(r3.keep (b2.block g r3.lt)).rd r4
 rw[hC]at hR1
 have hR2:=(rdn_blk (X:=fun _=>False) hB (fun q=>q)).rd
 refine⟨g2,rfl,Calls.mono (SameBytes_eq w2.heap.size _ _ 512 cp 512 512 (blkZ bq) w2 hR1 hR2) ?_⟩
 rintro e w3 ⟨rfl,rfl⟩
 exact⟨rfl,hn Y1 w3 (r1.below b2) (k1.below b2)⟩
theorem kpe_any{cs:Array Value}{Z c1 gm cm cap1:Nat}{cn:Nat->Int}(i:IdlZ Y W F Z N C)(k:KsS w0 o cs x0 x1 F f1 r0 r1 Rs Y W)(hc1:cs[1]?=some (.pointer (some ⟨F.st,0,none⟩)))(hc3:cs[3]?=some (.pointer (some ⟨x0,0,none⟩)))(hc4:cs[4]?=some (.pointer (some ⟨x1,0,none⟩)))(T0:Tst C (fun _=>none) 65 r0 F.nb Z sz cn cn)(T1:Tst C (fun _=>none) f1 r1 F.nb Z c1 (fun _=>0) (fun _=>0))(hm:(.slice (some ⟨gm,0,none⟩) (sz+2) cm,cntL cn (fun _=>0) sz)∈Rs)(hg:(.slice (some ⟨g1,0,none⟩) (c1+2) cap1,cntL (fun _=>0) (fun _=>0) c1)∈Rs)(hZ:Z+sz+c1+8<16000000)(hPO:∀w',Below w0.heap.size w0 w'->PO (.returned (.bool true)) w'):KpE o gm cm (sz+2) g1 (c1+2) cap1 PO W:=by
 have hs0:=T0.sz1
 have hs1:=T1.sz1
 have hr0:=T0.hP.hr
 have hr1:=T1.hP.hr
 refine⟨F.st,x0,by rw[k.wb.cell,hc1],Calls.mono i.begin ?_⟩
 rintro e w1 ⟨t,Y1,rfl,o1,_,g1',b1⟩
 have k1:=k.step b1 g1'
 refine⟨t,rfl,by rw[k1.wb.cell,hc3],Calls.mono (counted_any o1 k1.s0 k1.n0 (by omega) T0) ?_⟩
 rintro e w2 ⟨tvn,Y2,rfl,rn,rnY,o2,g2,b2⟩
 obtain⟨gn,cnn,rfl⟩:=row_some rn (by omega)
 have s1:=k1.bel.size
 have rn':w2.ownsRow w1.heap.size 3 1 (.slice (some ⟨gn,0,none⟩) (sz+2) cnn) (cntL cn cn sz).length ((cntL cn cn sz).map (Value.int .i64)):=by rw[cntL_len];exact rn
 have k2:=(k1.step b2 g2).push rn' s1 rnY
 have hmm:∀ {Y9:Nat->Prop} {W9:World},KsS w0 o cs x0 x1 F f1 r0 r1 ((.slice (some ⟨gn,0,none⟩) (sz+2) cnn,cntL cn cn sz) :: Rs) Y9 W9->RdI W9.heap.size W9 (some ⟨gn,0,none⟩) (sz+2) (cntL cn cn sz)/\RdI W9.heap.size W9 (some ⟨gm,0,none⟩) (sz+2) (cntL cn (fun _=>0) sz)/\RdI W9.heap.size W9 (some ⟨g1,0,none⟩) (c1+2) (cntL (fun _=>0) (fun _=>0) c1)/\sz+2<=cm:=fun k9=>by
  have a1:=(k9.rs _ (List.mem_cons_self ..)).1
  have a2:=(k9.rs _ (List.mem_cons_of_mem _ hm)).1
  have a3:=(k9.rs _ (List.mem_cons_of_mem _ hg)).1
  simp only[cntL_len]at a1 a2 a3
  exact⟨(row_rdi a1).1,(row_rdi a2).1,(row_rdi a3).1,(row_rdi a2).2⟩
 have c37:∀ {Y9:Nat->Prop} {W9:World},KsS w0 o cs x0 x1 F f1 r0 r1 ((.slice (some ⟨gn,0,none⟩) (sz+2) cnn,cntL cn cn sz) :: Rs) Y9 W9->W9.cell? ⟨o,4,none⟩=some (.pointer (some ⟨x1,0,none⟩))/\W9.cell? ⟨gn,0,none⟩=some (.int .i64 (sz:Int))/\W9.cell? ⟨gm,0,none⟩=some (.int .i64 (sz:Int)):=fun k9=>by
  obtain⟨a1,a2,_⟩:=hmm k9
  exact⟨by rw[k9.wb.cell,hc4],a1.at (by omega) rfl,a2.at (by omega) rfl⟩
 have c39:∀ {Y9:Nat->Prop} {W9:World},KsS w0 o cs x0 x1 F f1 r0 r1 ((.slice (some ⟨gn,0,none⟩) (sz+2) cnn,cntL cn cn sz) :: Rs) Y9 W9->W9.cell? ⟨gn,1,none⟩=some (.int .i64 ((frA cn cn sz).length:Int))/\W9.cell? ⟨gm,1,none⟩=some (.int .i64 ((frA cn (fun _=>0) sz).length:Int)):=fun k9=>by
  obtain⟨a1,a2,_⟩:=hmm k9
  exact⟨a1.at (by omega) rfl,a2.at (by omega) rfl⟩
 have dr:=Below.drew1 w2
 have k2d:=k2.below dr
 refine⟨gn,cnn,x1,(sz:Int),rfl,⟨by omega,(row_rdi rn).2,(hmm k2).2.2.2,by omega⟩,c37 k2d,Calls.mono (counted_any (o2.below dr) k2d.s1 k2d.n1 (by omega) (T1.mono (by omega))) ?_⟩
 rintro e w3 ⟨tv3,Y3,rfl,r3,r3Y,o3,g3,b3⟩
 obtain⟨ga,ca,rfl⟩:=row_some r3 (by omega)
 have k3:=k2d.step b3 g3
 refine⟨ga,ca,rfl,c37 k3,Calls.mono (SameInts_eq w3.heap.size _ _ _ _ _ _ w3 (Nat.le_refl _) (by omega) (row_rdi r3).1 (hmm k3).2.2.1) ?_⟩
 rintro e w4 ⟨rfl,b4⟩
 have k4:=k3.below b4
 have k4d:=k4.below (Below.drew1 w4)
 obtain⟨a1,a2,_⟩:=hmm k4d
 refine⟨rfl,c37 k4,_,_,?_,c39 k4d,Calls.mono (SameInts_eq w4.drew.heap.size _ _ (sz+2-2) _ _ (List.drop 2 (cntL cn cn sz)) w4.drew (Nat.le_refl _) (by omega) (a1.drop 2 (by omega)) (a2.drop 2 (by omega))) ?_⟩
 ·rw[frA_self]
  exact Int.le_refl _
 ·rintro e w5 ⟨rfl,b5⟩
  have k5:=k4d.below b5
  exact⟨rfl,c39 k5,hPO w5 k5.bel⟩
end Go.Proofs.YtlefjidbpjkhlaaGreat
