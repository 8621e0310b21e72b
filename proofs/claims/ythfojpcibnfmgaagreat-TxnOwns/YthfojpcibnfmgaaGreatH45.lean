import Derived.Test.YthfojpcibnfmgaaGreatH44
import Derived.Deep.DeepCutAuto
import Derived.Test.YthfojpcibnfmgaaGreatRows
import Derived.Test.YthfojpcibnfmgaaGreatChecked
import Derived.ProofKit
import Derived.OpenShut
import Derived.SizedLaws
import Derived.Deep.SlicePairs
import Derived.Test.YthfojpcibnfmgaaGreatH24
import Derived.Deep.AppendLies
import Derived.Deep.QuietTactic
import Derived.BigQuiet
set_option maxRecDepth 100000
set_option maxHeartbeats 16000000
namespace Go.Proofs.YthfojpcibnfmgaaGreat
variable {Q R R' X:Nat->Prop}
variable {W w w':World}
variable {As:List Aw}
variable {B b e i k m n:Nat}
variable {ys zs:List Int}
variable {H:Type}
variable {he ke ma row u wa:Value}
variable {vs xs:List Value}
variable {cnt tot:Int}
variable {bad:Bool}
open Go.RowKit Go.Deep
structure AwIn (Q:Nat->Prop) (w:World) (a:Aw):Prop where
 lo:-9223372036854775808<=a.at_
 hi:a.at_<=9223372036854775807
 rn:a.rn<=16777216
 raw:∃zs,RdN (fun k=>¬Q k) w a.ra a.rn zs
def RdA (Q:Nat->Prop) (w:World) (a:Option Addr) (As:List Aw):Prop :=
 As=[]\/∃b off,a=some ⟨b,off,none⟩/\Q b/\b<w.heap.size/\∀t q,As[t]?=some q->w.cell? ⟨b,off+t * 6,none⟩=some (.int .i64 q.wh)/\w.cell? ⟨b,off+t * 6+1,none⟩=some (.int .i64 q.kd)/\w.cell? ⟨b,off+t * 6+2,none⟩=some (.int .i64 q.tx)/\w.cell? ⟨b,off+t * 6+3,none⟩=some (.int .i64 q.at_)/\w.cell? ⟨b,off+t * 6+4,none⟩=some (.int .i64 q.fl)/\w.cell? ⟨b,off+t * 6+5,none⟩=some (.slice q.ra q.rn q.rc)
def Scr (Q:Nat->Prop) (w:World) (a:Option Addr) (As:List Aw):Prop:=RdA Q w a As/\∀q∈As,AwIn Q w q
theorem Scr.but{a:Option Addr}(h:Scr Q w a As)(hb:But (fun k=>¬Q k) w w'):Scr Q w' a As:=by
 refine⟨?_,fun q hq=>?_⟩
 ·rcases h.1 with e | ⟨b,o,e,hq,l,q⟩
  ·exact .inl e
  ·have K:∀i,w'.cell? ⟨b,i,none⟩=w.cell? ⟨b,i,none⟩:=fun i=>hb.cell (p:=⟨b,i,none⟩) l (fun r=>r hq)
   refine .inr ⟨b,o,e,hq,Nat.lt_of_lt_of_le l hb.size,fun t d hd=>?_⟩
   obtain⟨q0,q1,q2,q3,q4,q5⟩:=q t d hd
   exact⟨(K _).trans q0,(K _).trans q1,(K _).trans q2,(K _).trans q3,(K _).trans q4,(K _).trans q5⟩
 ·obtain⟨r1,r2,r3,zs,r4⟩:=h.2 q hq
  exact⟨r1,r2,r3,zs,r4.but hb⟩
theorem Scr.wide{Q':Nat->Prop}{a:Option Addr}(h:Scr Q w a As)(hq:∀k,Q k->Q' k):Scr Q' w a As:=by
 refine⟨h.1.imp id (fun⟨b,o,e,hb,l,q⟩=>⟨b,o,e,hq b hb,l,q⟩),fun q hm=>?_⟩
 obtain⟨r1,r2,r3,zs,r4⟩:=h.2 q hm
 exact⟨r1,r2,r3,zs,r4.mono (fun k _ e1 e2=>e1 (hq k e2))⟩
theorem Scr.at{a:Option Addr}(h:Scr Q w a As){q:Aw}(hq:As[i]?=some q):∃b off,a=some ⟨b,off,none⟩/\(w.cell? ⟨b,off+i * 6,none⟩=some (.int .i64 q.wh)/\w.cell? ⟨b,off+i * 6+1,none⟩=some (.int .i64 q.kd)/\w.cell? ⟨b,off+i * 6+2,none⟩=some (.int .i64 q.tx)/\w.cell? ⟨b,off+i * 6+3,none⟩=some (.int .i64 q.at_)/\w.cell? ⟨b,off+i * 6+4,none⟩=some (.int .i64 q.fl)/\w.cell? ⟨b,off+i * 6+5,none⟩=some (.slice q.ra q.rn q.rc)):=by
 rcases h.1 with e | ⟨b,off,e,_,_,hc⟩
 ·rw[e]at hq;cases hq
 ·exact⟨b,off,e,hc i q hq⟩
def Pr (Q:Nat->Prop) (w0:World) (x y Mx My:Nat) (w:World):Prop:=∃Bx By,Dsk Bx w x Mx/\Dsk By w y My/\(∀k,Bx k->¬By k)/\(∀k,Q k->¬Bx k)/\(∀k,Q k->¬By k)/\(∀k,Q k->k<w0.heap.size)/\But (fun k=>¬Q k) w0 w
open Go.RowKit Go.Deep
open Go.RowKit Go.Deep
open Go.RowKit Go.Deep
open Go.ChangeShapes Go.WideShapes Go.ChangeAt Go.RowKit Go.Deep
theorem rd_of_open{x:Addr}{len cap:Nat}(hl:len<=cap)(hz:zs.length=cap)(hcell:∀i,i<zs.length->W.cell? (x.add i)=some (.int .u8 (zs.getD i 0)))(hwz:∀n∈zs,(Lit.int .u8 n).wf=true) :
  Rd W.heap.size W (some x) len (zs.take len):=by
 refine⟨by simp;omega,fun z hzm=>?_,?_⟩
 ·have:=bounds_u8 (hwz z (List.mem_of_mem_take hzm))
  omega
 ·by_cases h0:len=0
  ·exact .inl h0
  ·obtain⟨b,off,spot⟩:=x
   have hc:=hcell 0 (by omega)
   have hspot:spot=none:=by simpa [Addr.add] using World.cell?_spot hc
   subst hspot
   have hadd:∀t,(⟨b,off,none⟩:Addr).add t=⟨b,off+t,none⟩:=fun t=>by unfold Addr.add;split <;> simp_all
   refine .inr ⟨b,off,rfl,World.block_lt_of_cell? W ⟨b,off,none⟩ (by rw[hadd]at hc;exact hc),fun t ht=>?_⟩
   rw[<- hadd,hcell t (by omega),List.getD_eq_getElem?_getD,List.getD_eq_getElem?_getD,List.getElem?_take_of_lt ht]
theorem bulk_one(d:DataW H):1<=Rows.uptoBulk d:=by
 cases d with
 | lit l=>cases l <;> simp[Rows.uptoBulk]
 | nil=>simp[Rows.uptoBulk]
 | ptr d=>simp[Rows.uptoBulk]
 | slice elems spare=>simp[Rows.uptoBulk]
 | agg parts=>simp[Rows.uptoBulk]
 | iface t d=>simp[Rows.uptoBulk]
 | map entries=>simp[Rows.uptoBulk]
 | held h=>simp[Rows.uptoBulk]
theorem bulk_len(l:List (DataW H)):l.length<=Rows.uptoBulkAll l:=by
 induction l with
 | nil=>simp[Rows.uptoBulkAll]
 | cons x r ih=>have:=bulk_one x;simp only[Rows.uptoBulkAll,List.length_cons];omega
theorem bulk_mem{d:DataW H}{l:List (DataW H)}(h:d∈l):Rows.uptoBulk d<=Rows.uptoBulkAll l:=by
 induction l with
 | nil=>cases h
 | cons x r ih=>
  simp only[Rows.uptoBulkAll]
  cases List.mem_cons.1 h with
  | inl e=>subst e;omega
  | inr e=>have:=ih e;omega
theorem bulk_slice(elems spare:List (DataW H)):elems.length<=Rows.uptoBulk (.slice elems spare):=by
 have h1:=bulk_len elems
 simp only[Rows.uptoBulk]
 omega
theorem bulk_bound{l:List (DataW H)}(hk:Rows.uptoSmall H l=true):Rows.uptoBulkAll l<=1048576:=of_decide_eq_true hk
theorem spot_none{x:Addr}{v:Value}(h:W.cell? (x.add 0)=some v):∃b off,x=⟨b,off,none⟩:=by
 obtain⟨b,off,spot⟩:=x
 have hspot:spot=none:=by simpa [Addr.add] using World.cell?_spot h
 subst hspot
 exact⟨b,off,rfl⟩
theorem add_plain(b off t:Nat):(⟨b,off,none⟩:Addr).add t=⟨b,off+t,none⟩:=by unfold Addr.add;split <;> simp_all
theorem open_bc{enc:TypeId×Value->H}{v:Value}{fuel:Nat}{x:DataW H×List MemPlace}(hf:DataW.trod enc Tryz.prog W 0 (fun _=>true) true fuel 40 [v]=some x) :
  ∃a n c zs,v=.slice a n c/\Rd W.heap.size W a n zs/\n<=Rows.uptoBulk x.1/\(a=none->c=0):=by
 rcases open_ints Tryz.underlying40 Tryz.underlying5 (by kernel_rfl) hf with ⟨hcs,hx⟩ | ⟨x',l,c,zs,hcs,hp,hl,hm,hz,hx,hcell,hwz⟩
 ·simp at hcs
  subst hcs
  exact⟨none,0,0,[],rfl,⟨rfl,Pl.isB_nil,.inl rfl⟩,by omega,fun _=>rfl⟩
 ·simp at hcs
  subst hcs
  have hz':zs.length=c:=by simpa using hz
  refine⟨some x',l,c,zs.take l,rfl,rd_of_open hl hz' hcell hwz,?_,fun q=>by cases q⟩
  rw[hx]
  have:=bulk_slice (H:=H) (lits .u8 (zs.take l)) (lits .u8 (zs.drop l))
  simp only[lits,List.length_map,List.length_take]at this
  simp only[lits]
  omega
theorem open_six {enc:TypeId×Value->H} {P:Program} {base:Nat} {spare:Nat->Bool} {held:Bool} {t e:TypeId} {f0 f1 f2 f3 f4 f5:Field} {fuel:Nat} {cs:List Value} {x:DataW H×List MemPlace}
  (ht:P.underlying t=some (.slice e)) (he:P.underlying e=some (.struct #[f0,f1,f2,f3,f4,f5])) (ce:P.cellsOf e=6) (o0:f0.offset=0) (o1:f1.offset=1) (o2:f2.offset=2) (o3:f3.offset=3) (o4:f4.offset=4) (o5:f5.offset=5) (c0:P.cellsOf f0.type=1) (c1:P.cellsOf f1.type=1) (c2:P.cellsOf f2.type=1) (c3:P.cellsOf f3.type=1) (c4:P.cellsOf f4.type=1) (c5:P.cellsOf f5.type=1)
  (h:DataW.trod enc P w base spare held fuel t cs=some x) :
  (cs=[.slice none 0 0]/\x=(.nil,[])) \/
  ∃(a:Addr) (len cap m n:Nat) (D:Nat->DataW H),cs=[.slice (some a) len cap]/\len<=cap/\m=(if spare a.block then cap else len)/\x.1=.slice ((List.range len).map D) ((List.range (m-len)).map fun j=>D (len+j)) /\
   ∀i,i<m->∃(v0 v1 v2 v3 v4 v5:Value) (y0 y1 y2 y3 y4 y5:DataW H×List MemPlace),w.cell? (a.add (i * 6))=some v0/\w.cell? (a.add (i * 6+1))=some v1/\w.cell? (a.add (i * 6+2))=some v2/\w.cell? (a.add (i * 6+3))=some v3/\w.cell? (a.add (i * 6+4))=some v4/\w.cell? (a.add (i * 6+5))=some v5 /\
    DataW.trod enc P w base spare held (n-1) f0.type [v0]=some y0/\DataW.trod enc P w base spare held (n-1) f1.type [v1]=some y1/\DataW.trod enc P w base spare held (n-1) f2.type [v2]=some y2/\DataW.trod enc P w base spare held (n-1) f3.type [v3]=some y3/\DataW.trod enc P w base spare held (n-1) f4.type [v4]=some y4/\DataW.trod enc P w base spare held (n-1) f5.type [v5]=some y5/\D i=.agg [y0.1,y1.1,y2.1,y3.1,y4.1,y5.1]:=by
 rcases open_slice ht h with h0 | ⟨a,len,cap,m,n,D,Pl,rfl,hb,hl,hm,hmm,rfl,hx⟩
 ·exact Or.inl h0
 refine .inr ⟨a,len,cap,m,n,D,rfl,hl,hmm,rfl,?_⟩
 intro i hi
 obtain⟨cs',h1,h2⟩:=hx i hi
 rw[ce]at h1
 obtain⟨_,hlen,hcell⟩:=World.cells?_some h1
 obtain⟨xs,k,hk,hxy,_,hxl,hf⟩:=DataW.trod_struct he h2
 have hk':k=n-1:=by omega
 subst hk'
 match xs,hxl,cs',hlen with
 | [y0,y1,y2,y3,y4,y5],_,[v0,v1,v2,v3,v4,v5],_=>
  have g0:=hf 0 f0 rfl
  have g1:=hf 1 f1 rfl
  have g2:=hf 2 f2 rfl
  have g3:=hf 3 f3 rfl
  have g4:=hf 4 f4 rfl
  have g5:=hf 5 f5 rfl
  simp[o0,o1,o2,o3,o4,o5,c0,c1,c2,c3,c4,c5]at g0 g1 g2 g3 g4 g5
  have e0:=hcell 0 (by omega)
  have e1:=hcell 1 (by omega)
  have e2:=hcell 2 (by omega)
  have e3:=hcell 3 (by omega)
  have e4:=hcell 4 (by omega)
  have e5:=hcell 5 (by omega)
  rw[add_add]at e0 e1 e2 e3 e4 e5
  simp only[Prod.mk.injEq]at hxy
  exact⟨v0,v1,v2,v3,v4,v5,y0,y1,y2,y3,y4,y5,by simpa using e0,by simpa using e1,by simpa using e2,by simpa using e3,by simpa using e4,by simpa using e5,g0,g1,g2,g3,g4,g5,by simpa using hxy.1⟩
theorem open_acts{enc:TypeId×Value->H}{v:Value}{fuel:Nat}{x:DataW H×List MemPlace}(hf:DataW.trod enc Tryz.prog W 0 (fun _=>true) true fuel 24 [v]=some x)(hbd:Rows.uptoBulk x.1<=16777216) :
  ∃a c As,v=.slice a As.length c/\Scr (fun k=>k<W.heap.size) W a As/\As.length<=Rows.uptoBulk x.1:=by
 rcases open_six Tryz.underlying24 Tryz.underlying42 (by kernel_rfl) rfl rfl rfl rfl rfl rfl (by kernel_rfl) (by kernel_rfl) (by kernel_rfl) (by kernel_rfl) (by kernel_rfl) (by kernel_rfl) hf with ⟨hcs,hx⟩ | ⟨x1,len,c,m,n,D,hcs,hl,hmm,hx,hall⟩
 ·simp at hcs
  subst hcs
  exact⟨none,0,[],rfl,⟨.inl rfl,fun p hp=>by cases hp⟩,by simp⟩
 ·simp at hcs
  subst hcs
  have hm':m=c:=by simpa using hmm
  subst hm'
  have hsum:len<=Rows.uptoBulk x.1/\∀i,i<len->Rows.uptoBulk (D i)<=Rows.uptoBulk x.1:=by
   rw[hx]
   have h1:=bulk_slice (H:=H) ((List.range len).map D) ((List.range (m-len)).map fun j=>D (len+j))
   simp only[List.length_map,List.length_range]at h1
   refine⟨h1,fun i hi=>?_⟩
   have:=bulk_mem (d:=D i) (l:=(List.range len).map D) (List.mem_map.2 ⟨i,List.mem_range.2 hi,rfl⟩)
   simp only[Rows.uptoBulk]
   omega
  have each:∀i,i<len->∃q:Aw,(W.cell? (x1.add (i * 6))=some (.int .i64 q.wh)/\W.cell? (x1.add (i * 6+1))=some (.int .i64 q.kd)/\W.cell? (x1.add (i * 6+2))=some (.int .i64 q.tx)/\W.cell? (x1.add (i * 6+3))=some (.int .i64 q.at_)/\W.cell? (x1.add (i * 6+4))=some (.int .i64 q.fl)/\W.cell? (x1.add (i * 6+5))=some (.slice q.ra q.rn q.rc))/\AwIn (fun k=>k<W.heap.size) W q:=by
   intro i hi
   obtain⟨v0,v1,v2,v3,v4,v5,y0,y1,y2,y3,y4,y5,e0,e1,e2,e3,e4,e5,t0,t1,t2,t3,t4,t5,hD⟩:=hall i (by omega)
   obtain⟨q0,eq0,_,_⟩:=DataW.trod_int Tryz.underlying3 t0
   obtain⟨q1,eq1,_,_⟩:=DataW.trod_int Tryz.underlying3 t1
   obtain⟨q2,eq2,_,_⟩:=DataW.trod_int Tryz.underlying3 t2
   obtain⟨q3,eq3,_,wf3⟩:=DataW.trod_int Tryz.underlying3 t3
   obtain⟨q4,eq4,_,_⟩:=DataW.trod_int Tryz.underlying3 t4
   simp at eq0 eq1 eq2 eq3 eq4
   subst eq0 eq1 eq2 eq3 eq4
   obtain⟨aa,nn,cc,zs,rfl,hR,hn,hz⟩:=open_bc t5
   have hb:=hsum.2 i hi
   rw[hD]at hb
   simp only[Rows.uptoBulk,Rows.uptoBulkAll]at hb
   have b3:=bounds_i64 wf3
   exact⟨⟨q0,q1,q2,q3,q4,aa,nn,cc⟩,⟨e0,e1,e2,e3,e4,e5⟩,b3.1,b3.2,by show nn<=_;omega,zs,RdN.of_rd hR (Nat.le_refl _) (fun k hk r=>r hk)⟩
  have:Inhabited Aw:=⟨⟨0,0,0,0,0,none,0,0⟩⟩
  obtain⟨q,hq⟩:=choose_lt each
  have hlen:((List.range len).map q).length=len:=by simp
  refine⟨some x1,m,(List.range len).map q,by rw[hlen],⟨?_,fun p hp=>?_⟩,by rw[hlen];exact hsum.1⟩
  ·by_cases h0:len=0
   ·subst h0;exact .inl rfl
   ·obtain⟨b,off,rfl⟩:=spot_none (by have:=(hq 0 (by omega)).1.1;simpa using this)
    have hbl:b<W.heap.size:=by
     have:=(hq 0 (by omega)).1.1
     rw[add_plain]at this
     exact World.block_lt_of_cell? W ⟨b,off,none⟩ (by simpa using this)
    refine .inr ⟨b,off,rfl,hbl,hbl,fun i d hi=>?_⟩
    have hil:i<len:=by have:=(List.getElem?_eq_some_iff.1 hi).1;simpa using this
    have hd:d=q i:=by
     rw[List.getElem?_map,List.getElem?_range hil]at hi
     simpa using hi.symm
    subst hd
    have hh:=(hq i hil).1
    simp only[add_plain,<- Nat.add_assoc]at hh
    exact hh
  ·obtain⟨i,hi,rfl⟩:=List.mem_map.1 hp
   exact (hq i (List.mem_range.1 hi)).2
open Go.RowKit
def Dj (v u:Value):Prop:=∀g,v.ownBlock=some g->u.ownBlock≠some g
theorem dj_symm{v:Value}(h:Dj v u):Dj u v:=fun g hu hv=>h g hv hu
theorem dj_new{base size:Nat}{v:Value}{g cap:Nat}(hd:Dj v u)(hu:w.ownsRow base e size u n xs)(hl:v.ownBlock=some g\/g=w.heap.size):Dj (.slice (some ⟨g,0,none⟩) m cap) u:=by
 intro g' hg' hu'
 cases hg'
 rcases hl with hl | hl
 ·exact hd g hl hu'
 ·have:=(World.ownsRow.lt hu g hu').2
  omega
open Go.RowKit
/-! ### marked -/
def mkd (mark:Int) (i:Nat):Int:=(mark+7 * (i:Int)+1) % 256
def markL (k:Nat) (mark:Int):List Int:=(List.range k).map fun i=>mkd mark i
theorem length_markL(k:Nat)(mark:Int):(markL k mark).length=k:=by simp[markL]
theorem markL_getD(mark:Int)(h:i<k):(markL k mark).getD i 0=mkd mark i:=by simp[markL,h]
theorem isB_markL(k:Nat)(mark:Int):Pl.isB (markL k mark):=by
 intro z hz
 simp only[markL,List.mem_map]at hz
 obtain⟨i,_,rfl⟩:=hz
 unfold mkd
 omega
theorem markL_set(mark:Int)(h:i<k)(hl:ys.length=k)(ht:ys.take i=(markL k mark).take i):(ys.set i (mkd mark i)).take (i+1)=(markL k mark).take (i+1) :=
 take_set (by omega) (by rw[length_markL];exact h) ht (markL_getD mark h).symm
theorem marked_any(k:Nat)(mark:Int)(w:World)(hk:k<=1073741824)(h0:-1073741824<=mark)(h1:mark<=1073741824) :
  Calls Tryz.prog 86 #[.int .i64 (k:Int),.int .i64 mark] w fun e w'=>e=.returned (.slice (some ⟨w.heap.size,0,none⟩) k k)/\Blk .u8 5 w' w.heap.size (markL k mark)/\w'.heap.size=w.heap.size+1/\Below w.heap.size w w':=by
 have hmk:=make_u8 k (by omega)
 have HB0:=hid (Blk.new (k:=.u8) (e:=5) w (zeros k))
 have Hb0:=hid ((Below.refl w.heap.size w).alloc (Nat.le_refl _) (.cells ((zeros k).map (Value.int .u8)).toArray 5))
 go_enter Tryz.func86,Tryz.ntmps86
 go_wp2
 go_loopw [6] (fun i wt=>∃(j:Nat) (ys:List Int),j<=k/\i=.int .i64 (j:Int)/\Blk .u8 5 wt w.heap.size ys/\ys.length=k/\ys.take j=(markL k mark).take j/\wt.heap.size=w.heap.size+1/\Below w.heap.size w wt) (fun i _=>k-(intOf i).toNat)
 case atStart=>exact⟨0,zeros k,Nat.zero_le _,rfl,HB0.out,length_zeros k,rfl,by simp,Hb0.out⟩
 case round=>
  clear HB0 Hb0 hmk
  obtain⟨j,ys,hj,rfl,hB,hl,ht,hs,hb⟩:=hrel
  by_cases hjk:j<k
  ·have hc:=hB.cell j (by omega)
   have hf:=hB.frozen j
   have HB:=hid (hB.set j (mkd mark j))
   have HT:=hid (markL_set mark hjk hl ht)
   have Hl:=hid hl
   have Hs:=hid hs
   have Hb:=hid (hb.setCell (p:=⟨w.heap.size,j,none⟩) (Nat.le_refl _) (.int .u8 (mkd mark j)))
   generalize ys.getD j 0=old at *
   clear hB ht hl hs hb
   go_wp2
   go_roundw
   case rel=>exact⟨j+1,_,by omega,by go_num,HB.out,by simpa using Hl.out,HT.out,by simpa [World.setCell] using Hs.out,Hb.out⟩
   case measure=>simp[intOf];omega
  ·have e:ys=markL k mark:=by
    rw[List.take_of_length_le (by omega),List.take_of_length_le (by rw[length_markL];omega)]at ht
    exact ht
   have HB:=hid (e ▸ hB)
   have Hs:=hid hs
   clear hB ht hl e hs
   go_wp2
   go_ret
   exact⟨rfl,HB.out,Hs.out,hb⟩
/-! ### lists of bytes that lie in settled blocks -/
def T5 (w:World) (g:Nat):Prop:=∃cur,w.heap[g]?=some (.cells cur 5 (0,0))
theorem T5.lt{g:Nat}(h:T5 w g):g<w.heap.size:=by obtain⟨cur,h⟩:=h;exact (Array.getElem?_eq_some_iff.1 h).1
theorem T5.blk{g:Nat}(h:Blk .u8 5 w g zs):T5 w g:=⟨_,h⟩
theorem T5.keep{g:Nat}(h:T5 w g)(hk:w'.heap[g]?=w.heap[g]?):T5 w' g:=by obtain⟨cur,h⟩:=h;exact⟨cur,by rw[hk];exact h⟩
theorem T5.ne_row{g base size:Nat}{v:Value}(h:T5 w g)(hr:w.ownsRow base e size v n xs)(he:e≠5):v.ownBlock≠some g:=by
 intro hv
 obtain⟨cur,h⟩:=h
 rcases hr.2 with ⟨h1,_⟩ | ⟨g',cap,cur',h1,_,hh,_⟩
 ·rw[h1]at hv;cases hv
 ·rw[h1]at hv
  cases hv
  rw[h]at hh
  simp at hh
  exact he hh.2.symm
def Sl (R:Nat->Prop) (w:World) (v:Value) (zs:List Int):Prop :=
 Pl.isB zs/\∃a c,v=.slice a zs.length c/\(a=none->c=0)/\(zs.length=0\/∃g,a=some ⟨g,0,none⟩/\R g/\∀t,t<zs.length->w.cell? ⟨g,t,none⟩=some (.int .u8 (zs.getD t 0)))
theorem Sl.keep{v:Value}(h:Sl R w v zs)(hk:∀g,R g->w'.heap[g]?=w.heap[g]?):Sl R w' v zs:=by
 obtain⟨h1,a,c,h2,h3,h4⟩:=h
 refine⟨h1,a,c,h2,h3,?_⟩
 rcases h4 with h4 | ⟨g,h4,h5,h6⟩
 ·exact .inl h4
 ·exact .inr ⟨g,h4,h5,fun t ht=>(World.cell?_of_block (w:=w) (hk g h5)).trans (h6 t ht)⟩
theorem Sl.mono{v:Value}(h:Sl R w v zs)(hr:∀g,R g->R' g):Sl R' w v zs:=by
 obtain⟨h1,a,c,h2,h3,h4⟩:=h
 exact⟨h1,a,c,h2,h3,h4.imp id fun⟨g,q1,q2,q3⟩=>⟨g,q1,hr g q2,q3⟩⟩
theorem Sl.rd{v:Value}(h:Sl R w v zs)(hT:∀g,R g->T5 w g):∃a c,v=.slice a zs.length c/\(a=none->c=0)/\Rd w.heap.size w a zs.length zs:=by
 obtain⟨h1,a,c,h2,h3,h4⟩:=h
 refine⟨a,c,h2,h3,rfl,h1,?_⟩
 rcases h4 with h4 | ⟨g,rfl,h5,h6⟩
 ·exact .inl h4
 ·exact .inr ⟨g,0,rfl,(hT g h5).lt,fun t ht=>by rw[Nat.zero_add];exact h6 t ht⟩
theorem Sl.of_blk{g:Nat}(h:Blk .u8 5 w g zs)(hb:Pl.isB zs)(hr:R g)(c:Nat):Sl R w (.slice (some ⟨g,0,none⟩) zs.length c) zs :=
 ⟨hb,_,c,rfl,(fun h=>by cases h),.inr ⟨g,rfl,hr,fun t ht=>h.cell t ht⟩⟩
theorem Sl.of_own{g cap:Nat}(h:Own w g n cap zs)(hb:Pl.isB zs)(hr:R g):Sl R w (.slice (some ⟨g,0,none⟩) n cap) zs:=by
 have hl:=h.len
 subst hl
 exact⟨hb,_,cap,rfl,(fun h=>by cases h),.inr ⟨g,rfl,hr,fun t ht=>h.cell t ht⟩⟩
theorem Own.t5{g cap:Nat}(h:Own w g n cap zs):T5 w g:=by
 rcases h.2 with ⟨h1,_⟩ | ⟨g',cap',cur,h1,_,hh,_⟩
 ·cases h1
 ·simp at h1
  obtain⟨rfl,_⟩:=h1
  exact⟨cur,hh⟩
/-! ### the book's own block -/
def Bkb (w:World) (b:Nat) (cnt tot:Int) (bad:Bool) (fr he ma ke wa:Value):Prop:=w.heap[b]?=some (.cells #[.int .i64 cnt,.int .i64 tot,.bool bad,fr,he,ma,ke,wa] 39 (0,0))
theorem Bkb.lt{fr:Value}(h:Bkb w b cnt tot bad fr he ma ke wa):b<w.heap.size:=(Array.getElem?_eq_some_iff.1 h).1
theorem Bkb.cell{fr:Value}(h:Bkb w b cnt tot bad fr he ma ke wa)(t:Nat):w.cell? ⟨b,t,none⟩=#[Value.int .i64 cnt,.int .i64 tot,.bool bad,fr,he,ma,ke,wa][t]?:=by
 unfold Bkb at h
 simp[World.cell?,h]
theorem Bkb.frozen{fr:Value}(h:Bkb w b cnt tot bad fr he ma ke wa)(t:Nat):w.frozen? ⟨b,t,none⟩=false:=by
 unfold Bkb at h
 simp[World.frozen?,h]
theorem Bkb.of_block{fr:Value}(h:Bkb w b cnt tot bad fr he ma ke wa)(hw:w'.heap[b]?=w.heap[b]?):Bkb w' b cnt tot bad fr he ma ke wa:=by unfold Bkb at *;rw[hw];exact h
theorem Bkb.set{fr:Value}(h:Bkb w b cnt tot bad fr he ma ke wa)(t:Nat)(v:Value):(w.setCell ⟨b,t,none⟩ v).heap[b]?=some (.cells (#[.int .i64 cnt,.int .i64 tot,.bool bad,fr,he,ma,ke,wa].setIfInBounds t v) 39 (0,0)):=by
 unfold Bkb at h
 simp only[World.setCell,Array.getElem?_modify]
 rw[h]
 simp
theorem Bkb.ne_row{fr:Value}(h:Bkb w b cnt tot bad fr he ma ke wa){base size:Nat}{v:Value}(hr:w.ownsRow base e size v n xs)(he':e≠39):v.ownBlock≠some b:=by
 intro hv
 unfold Bkb at h
 rcases hr.2 with ⟨h1,_⟩ | ⟨g',cap,cur',h1,_,hh,_⟩
 ·rw[h1]at hv;cases hv
 ·rw[h1]at hv
  cases hv
  rw[h]at hh
  simp at hh
  exact he' hh.2.symm
theorem Bkb.ne_t5{fr:Value}(h:Bkb w b cnt tot bad fr he ma ke wa){g:Nat}(hg:T5 w g):g≠b:=by
 intro e
 subst e
 obtain⟨cur,hh⟩:=hg
 unfold Bkb at h
 rw[h]at hh
 simp at hh
open Go.RowKit
structure RS (S:Nat->Prop) (B:Nat) (w:World) (row:Value) (n:Nat) (vs:List Value) (Z:Nat->List Int):Prop where
 own:w.ownsRow B 40 1 row n vs
 sl:∀i,i<n->Sl S w (vs.getD i (.bool false)) (Z i)
theorem RS.keep{S:Nat->Prop}{Z:Nat->List Int}(h:RS S B w row n vs Z)(ho:w'.ownsRow B 40 1 row n vs)(hk:∀g,S g->w'.heap[g]?=w.heap[g]?):RS S B w' row n vs Z:=⟨ho,fun i hi=>(h.sl i hi).keep hk⟩
theorem RS.but{S:Nat->Prop}{Z:Nat->List Int}(h:RS S B w row n vs Z)(hb:But X w w')(hS:∀g,S g->g<w.heap.size/\¬X g)(hr:∀g,row.ownBlock=some g->¬X g):RS S B w' row n vs Z:=by
 refine h.keep ?_ (fun g hg=>hb.block g (hS g hg).1 (hS g hg).2)
 obtain⟨h1,h2⟩:=h.own
 refine⟨h1,?_⟩
 rcases h2 with h2 | ⟨g,cap,cur,rfl,hg,hh,r⟩
 ·exact .inl h2
 ·exact .inr ⟨g,cap,cur,rfl,hg,by rw[hb.block g (Array.getElem?_eq_some_iff.1 hh).1 (hr g rfl)];exact hh,r⟩
theorem RS.form{S:Nat->Prop}{Z:Nat->List Int}(h:RS S B w row n vs Z) :
  ∃a c,row=.slice a n c/\(n=0\/∃g,a=some ⟨g,0,none⟩/\g<w.heap.size/\∀i,i<n->w.cell? ⟨g,i,none⟩=some (vs.getD i (.bool false))):=by
 have hl:vs.length=n:=by simpa using h.own.1
 rcases h.own.2 with ⟨h1,h2⟩ | ⟨g,cap,cur,h1,_⟩
 ·subst h2;exact⟨none,0,h1,.inl rfl⟩
 ·subst h1
  refine⟨_,cap,rfl,.inr ⟨g,rfl,(World.ownsRow.lt h.own g rfl).2,fun i hi=>?_⟩⟩
  rw[World.ownsRow.cellAt h.own i (by omega)]
  simp[show i<vs.length by omega]
theorem same_any (S:Nat->Prop) (B b:Nat) (cnt tot:Int) (bad:Bool) (fr he ma ke wa:Value) (n:Nat) (kv wv:List Value) (Z:Nat->List Int) (w:World) (hn:n<=134217728)
  (hb:Bkb w b cnt tot bad fr he ma ke wa) (hK:RS S B w ke n kv Z) (hW:RS S B w wa n wv Z) (hT:∀g,S g->T5 w g) :
  Calls Tryz.prog 49 #[.pointer (some ⟨b,0,none⟩)] w fun e w'=>e=.returned (.bool true)/\But (fun _=>False) w w':=by
 obtain⟨a1,c1,rfl,f1⟩:=hK.form
 obtain⟨a2,c2,rfl,f2⟩:=hW.form
 go_enter Tryz.func49,Tryz.ntmps49
 go_wp2
 go_loopw [3] (fun i wt=>∃k:Nat,k<=n/\i=.int .i64 (k:Int)/\But (fun _=>False) w wt) (fun i _=>n-(intOf i).toNat)
 case atStart=>exact⟨0,Nat.zero_le _,rfl,But.refl _ _⟩
 case round=>
  obtain⟨k,hk,rfl,hbt⟩:=hrel
  have hb':=hb.of_block (hbt.block b hb.lt (fun h=>h))
  have b6:=hb'.cell 6
  have b7:=hb'.cell 7
  simp only[List.getElem?_toArray,List.getElem?_cons_succ,List.getElem?_cons_zero]at b6 b7
  by_cases hkn:k<n
  ·obtain⟨g1,rfl,l1,q1⟩:=f1.resolve_left (by omega)
   obtain⟨g2,rfl,l2,q2⟩:=f2.resolve_left (by omega)
   have q1':=(hbt.cell (p:=⟨g1,k,none⟩) l1 (fun h=>h)).trans (q1 k hkn)
   have q2':=(hbt.cell (p:=⟨g2,k,none⟩) l2 (fun h=>h)).trans (q2 k hkn)
   have hT':∀g,S g->T5 wr g:=fun g hg=>(hT g hg).keep (hbt.block g (hT g hg).lt (fun h=>h))
   have s1:=(hK.sl k hkn).keep (w':=wr) (fun g hg=>hbt.block g (hT g hg).lt (fun h=>h))
   have s2:=(hW.sl k hkn).keep (w':=wr) (fun g hg=>hbt.block g (hT g hg).lt (fun h=>h))
   obtain⟨a3,c3,e3,_,r3⟩:=s1.rd hT'
   obtain⟨a4,c4,e4,_,r4⟩:=s2.rd hT'
   rw[e3]at q1'
   rw[e4]at q2'
   have v3:∀q,(convert 40 9 (.slice a3 (Z k).length c3)).run Tryz.prog (wr.drewN q)=.ok (.string (strOfNums (Z k))) (wr.drewN q):=fun q=>conv_str (w:=wr.drewN q) r3 c3
   have v4:∀q,(convert 40 9 (.slice a4 (Z k).length c4)).run Tryz.prog (wr.drewN q)=.ok (.string (strOfNums (Z k))) (wr.drewN q):=fun q=>conv_str (w:=wr.drewN q) r4 c4
   have hk1:(k:Int)<(n:Int):=by omega
   clear s1 s2 e3 e4 r3 r4 hT' q1 q2 hT hK hW f1 f2 hb'
   generalize strOfNums (Z k)=st at *
   generalize (Z k).length=m at *
   go_wp2_with fail
   go_quiet (fail)
   go_wp2
   go_roundw
   case rel=>exact⟨k+1,by omega,by go_num,hbt.drewN _⟩
   case measure=>simp[intOf];omega
  ·clear hK hW hT f1 f2
   go_wp2
   go_ret
   exact⟨rfl,hbt⟩
theorem untouched_any (S:Nat->Prop) (B b:Nat) (cnt tot:Int) (fr he ma ke wa:Value) (n:Nat) (fv hv:List Value) (Z:Nat->List Int) (w:World) (hn:n<=134217728)
  (hb:Bkb w b cnt tot false fr he ma ke wa) (hF:RS S B w fr n fv Z) (hH:RS S B w he n hv Z) (hT:∀g,S g->T5 w g) :
  Calls Tryz.prog 48 #[.pointer (some ⟨b,0,none⟩)] w fun e w'=>e=.returned (.tuple #[])/\But (fun x=>x=b) w w'/\Bkb w' b cnt tot false fr he ma ke wa:=by
 obtain⟨a1,c1,rfl,f1⟩:=hF.form
 obtain⟨a2,c2,rfl,f2⟩:=hH.form
 have nS:∀g,S g->g≠b:=fun g hg=>hb.ne_t5 (hT g hg)
 have nF:=hb.ne_row hF.own (by decide)
 have nH:=hb.ne_row hH.own (by decide)
 go_enter Tryz.func48,Tryz.ntmps48
 go_wp2
 go_loopw [2] (fun i wt=>∃k:Nat,k<=n/\i=.int .i64 (k:Int)/\But (fun x=>x=b) w wt/\Bkb wt b cnt tot false (.slice a1 n c1) (.slice a2 n c2) ma ke wa) (fun i _=>n-(intOf i).toNat)
 case atStart=>exact⟨0,Nat.zero_le _,rfl,But.refl _ _,hb⟩
 case round=>
  obtain⟨k,hk,rfl,hbt,hb'⟩:=hrel
  have b2:=hb'.cell 2
  have b3:=hb'.cell 3
  have b4:=hb'.cell 4
  have fz:=hb'.frozen 2
  simp only[List.getElem?_toArray,List.getElem?_cons_succ,List.getElem?_cons_zero]at b2 b3 b4
  by_cases hkn:k<n
  ·obtain⟨g1,rfl,l1,q1⟩:=f1.resolve_left (by omega)
   obtain⟨g2,rfl,l2,q2⟩:=f2.resolve_left (by omega)
   have q1':=(hbt.cell (p:=⟨g1,k,none⟩) l1 (fun h=>nF (by rw[<- h];rfl))).trans (q1 k hkn)
   have q2':=(hbt.cell (p:=⟨g2,k,none⟩) l2 (fun h=>nH (by rw[<- h];rfl))).trans (q2 k hkn)
   have hkeep:∀g,S g->wr.heap[g]?=w.heap[g]?:=fun g hg=>hbt.block g (hT g hg).lt (nS g hg)
   have hT':∀g,S g->T5 wr g:=fun g hg=>(hT g hg).keep (hkeep g hg)
   have s1:=(hF.sl k hkn).keep (w':=wr) hkeep
   have s2:=(hH.sl k hkn).keep (w':=wr) hkeep
   obtain⟨a3,c3,e3,_,r3⟩:=s1.rd hT'
   obtain⟨a4,c4,e4,_,r4⟩:=s2.rd hT'
   rw[e3]at q1'
   rw[e4]at q2'
   have v3:(convert 40 9 (.slice a3 (Z k).length c3)).run Tryz.prog wr.drew=.ok (.string (strOfNums (Z k))) wr.drew:=conv_str (w:=wr.drew) r3 c3
   have v4:(convert 40 9 (.slice a4 (Z k).length c4)).run Tryz.prog wr.drew=.ok (.string (strOfNums (Z k))) wr.drew:=conv_str (w:=wr.drew) r4 c4
   have hk1:(k:Int)<(n:Int):=by omega
   have Hset:=hid (hb'.set 2 (.bool false))
   have Hbt:=hid (hbt.setCell (p:=⟨b,2,none⟩) rfl (.bool false))
   clear s1 s2 e3 e4 r3 r4 hT' hkeep q1 q2 hT hF hH f1 f2 hb' nS nF nH hbt
   generalize strOfNums (Z k)=st at *
   generalize (Z k).length=m at *
   go_wp2_with fail
   go_region
   all_goals go_wp2
   all_goals
    go_roundw
    case rel=>exact⟨k+1,by omega,by go_num,Hbt.out.drew,Hset.out⟩
    case measure=>simp[intOf];omega
  ·clear hF hH hT f1 f2 nS nF nH
   go_wp2
   go_end0
   exact⟨rfl,hbt,hb'⟩
end Go.Proofs.YthfojpcibnfmgaaGreat
