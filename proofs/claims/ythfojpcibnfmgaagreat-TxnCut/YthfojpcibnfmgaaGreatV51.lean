import Derived.Test.YthfojpcibnfmgaaGreatV50
import Derived.Test.YthfojpcibnfmgaaGreatRows
import Derived.Test.YthfojpcibnfmgaaGreatChecked
import Derived.ProofKit
import Derived.OpenShut
import Derived.SizedLaws
import Derived.Deep.SlicePairs
set_option maxRecDepth 100000
set_option maxHeartbeats 16000000
namespace Go.Proofs.YthfojpcibnfmgaaGreat
variable {W w:World}
variable {zs:List Int}
variable {H:Type}
variable {P:Program}
variable {n:Nat}
open Go.ChangeShapes Go.WideShapes Go.ChangeAt Go.RowKit Go.Deep
theorem rd_of_open{x:Addr}{len cap:Nat}(hl:len<=cap)(hz:zs.length=cap)(hcell:∀i,i<zs.length->W.cell? (x.add i)=some (.int .u8 (zs.getD i 0)))(hwz:∀n∈zs,(Lit.int .u8 n).wf=true) :
  Rd W.heap.size W (some x) len (zs.take len):=by
 refine⟨by simp;omega,fun z hzm=>?_,?_⟩
 ·have:=bounds_u8 (hwz z (List.mem_of_mem_take hzm))
  omega
 ·by_cases h0:len=0
  ·exact .inl h0
  ·obtain⟨b,off,spot⟩:=x
   have hc:=hcell 0 (by omega)
   have hspot:spot=none:=by simpa [Addr.add] using World.cell?_spot hc
   subst hspot
   have hadd:∀t,(⟨b,off,none⟩:Addr).add t=⟨b,off+t,none⟩:=fun t=>by unfold Addr.add;split <;> simp_all
   refine .inr ⟨b,off,rfl,World.block_lt_of_cell? W ⟨b,off,none⟩ (by rw[hadd]at hc;exact hc),fun t ht=>?_⟩
   rw[<- hadd,hcell t (by omega),List.getD_eq_getElem?_getD,List.getD_eq_getElem?_getD,List.getElem?_take_of_lt ht]
theorem bulk_one(d:DataW H):1<=Rows.uptoBulk d:=by
 cases d with
 | lit l=>cases l <;> simp[Rows.uptoBulk]
 | nil=>simp[Rows.uptoBulk]
 | ptr d=>simp[Rows.uptoBulk]
 | slice elems spare=>simp[Rows.uptoBulk]
 | agg parts=>simp[Rows.uptoBulk]
 | iface t d=>simp[Rows.uptoBulk]
 | map entries=>simp[Rows.uptoBulk]
 | held h=>simp[Rows.uptoBulk]
theorem bulk_len(l:List (DataW H)):l.length<=Rows.uptoBulkAll l:=by
 induction l with
 | nil=>simp[Rows.uptoBulkAll]
 | cons x r ih=>have:=bulk_one x;simp only[Rows.uptoBulkAll,List.length_cons];omega
theorem bulk_mem{d:DataW H}{l:List (DataW H)}(h:d∈l):Rows.uptoBulk d<=Rows.uptoBulkAll l:=by
 induction l with
 | nil=>cases h
 | cons x r ih=>
  simp only[Rows.uptoBulkAll]
  cases List.mem_cons.1 h with
  | inl e=>subst e;omega
  | inr e=>have:=ih e;omega
theorem bulk_slice(elems spare:List (DataW H)):elems.length<=Rows.uptoBulk (.slice elems spare):=by
 have h1:=bulk_len elems
 simp only[Rows.uptoBulk]
 omega
theorem bulk_bound{l:List (DataW H)}(hk:Rows.uptoSmall H l=true):Rows.uptoBulkAll l<=1048576:=of_decide_eq_true hk
theorem spot_none{x:Addr}{v:Value}(h:W.cell? (x.add 0)=some v):∃b off,x=⟨b,off,none⟩:=by
 obtain⟨b,off,spot⟩:=x
 have hspot:spot=none:=by simpa [Addr.add] using World.cell?_spot h
 subst hspot
 exact⟨b,off,rfl⟩
theorem add_plain(b off t:Nat):(⟨b,off,none⟩:Addr).add t=⟨b,off+t,none⟩:=by unfold Addr.add;split <;> simp_all
theorem open_bc{enc:TypeId×Value->H}{v:Value}{fuel:Nat}{x:DataW H×List MemPlace}(hf:DataW.trod enc Tryz.prog W 0 (fun _=>true) true fuel 40 [v]=some x) :
  ∃a n c zs,v=.slice a n c/\Rd W.heap.size W a n zs/\n<=Rows.uptoBulk x.1/\(a=none->c=0):=by
 rcases open_ints Tryz.underlying40 Tryz.underlying5 (by kernel_rfl) hf with ⟨hcs,hx⟩ | ⟨x',l,c,zs,hcs,hp,hl,hm,hz,hx,hcell,hwz⟩
 ·simp at hcs
  subst hcs
  exact⟨none,0,0,[],rfl,⟨rfl,Pl.isB_nil,.inl rfl⟩,by omega,fun _=>rfl⟩
 ·simp at hcs
  subst hcs
  have hz':zs.length=c:=by simpa using hz
  refine⟨some x',l,c,zs.take l,rfl,rd_of_open hl hz' hcell hwz,?_,fun q=>by cases q⟩
  rw[hx]
  have:=bulk_slice (H:=H) (lits .u8 (zs.take l)) (lits .u8 (zs.drop l))
  simp only[lits,List.length_map,List.length_take]at this
  simp only[lits]
  omega
theorem open_six {enc:TypeId×Value->H} {base:Nat} {spare:Nat->Bool} {held:Bool} {t e:TypeId} {f0 f1 f2 f3 f4 f5:Field} {fuel:Nat} {cs:List Value} {x:DataW H×List MemPlace}
  (ht:P.underlying t=some (.slice e)) (he:P.underlying e=some (.struct #[f0,f1,f2,f3,f4,f5])) (ce:P.cellsOf e=6) (o0:f0.offset=0) (o1:f1.offset=1) (o2:f2.offset=2) (o3:f3.offset=3) (o4:f4.offset=4) (o5:f5.offset=5) (c0:P.cellsOf f0.type=1) (c1:P.cellsOf f1.type=1) (c2:P.cellsOf f2.type=1) (c3:P.cellsOf f3.type=1) (c4:P.cellsOf f4.type=1) (c5:P.cellsOf f5.type=1)
  (h:DataW.trod enc P w base spare held fuel t cs=some x) :
  (cs=[.slice none 0 0]/\x=(.nil,[])) \/
  ∃(a:Addr) (len cap m n:Nat) (D:Nat->DataW H),cs=[.slice (some a) len cap]/\len<=cap/\m=(if spare a.block then cap else len)/\x.1=.slice ((List.range len).map D) ((List.range (m-len)).map fun j=>D (len+j)) /\
   ∀i,i<m->∃(v0 v1 v2 v3 v4 v5:Value) (y0 y1 y2 y3 y4 y5:DataW H×List MemPlace),w.cell? (a.add (i * 6))=some v0/\w.cell? (a.add (i * 6+1))=some v1/\w.cell? (a.add (i * 6+2))=some v2/\w.cell? (a.add (i * 6+3))=some v3/\w.cell? (a.add (i * 6+4))=some v4/\w.cell? (a.add (i * 6+5))=some v5 /\
    DataW.trod enc P w base spare held (n-1) f0.type [v0]=some y0/\DataW.trod enc P w base spare held (n-1) f1.type [v1]=some y1/\DataW.trod enc P w base spare held (n-1) f2.type [v2]=some y2/\DataW.trod enc P w base spare held (n-1) f3.type [v3]=some y3/\DataW.trod enc P w base spare held (n-1) f4.type [v4]=some y4/\DataW.trod enc P w base spare held (n-1) f5.type [v5]=some y5/\D i=.agg [y0.1,y1.1,y2.1,y3.1,y4.1,y5.1]:=by
 rcases open_slice ht h with h0 | ⟨a,len,cap,m,n,D,Pl,rfl,hb,hl,hm,hmm,rfl,hx⟩
 ·exact Or.inl h0
 refine .inr ⟨a,len,cap,m,n,D,rfl,hl,hmm,rfl,?_⟩
 intro i hi
 obtain⟨cs',h1,h2⟩:=hx i hi
 rw[ce]at h1
 obtain⟨_,hlen,hcell⟩:=World.cells?_some h1
 obtain⟨xs,k,hk,hxy,_,hxl,hf⟩:=DataW.trod_struct he h2
 have hk':k=n-1:=by omega
 subst hk'
 match xs,hxl,cs',hlen with
 | [y0,y1,y2,y3,y4,y5],_,[v0,v1,v2,v3,v4,v5],_=>
  have g0:=hf 0 f0 rfl
  have g1:=hf 1 f1 rfl
  have g2:=hf 2 f2 rfl
  have g3:=hf 3 f3 rfl
  have g4:=hf 4 f4 rfl
  have g5:=hf 5 f5 rfl
  simp[o0,o1,o2,o3,o4,o5,c0,c1,c2,c3,c4,c5]at g0 g1 g2 g3 g4 g5
  have e0:=hcell 0 (by omega)
  have e1:=hcell 1 (by omega)
  have e2:=hcell 2 (by omega)
  have e3:=hcell 3 (by omega)
  have e4:=hcell 4 (by omega)
  have e5:=hcell 5 (by omega)
  rw[add_add]at e0 e1 e2 e3 e4 e5
  simp only[Prod.mk.injEq]at hxy
  exact⟨v0,v1,v2,v3,v4,v5,y0,y1,y2,y3,y4,y5,by simpa using e0,by simpa using e1,by simpa using e2,by simpa using e3,by simpa using e4,by simpa using e5,g0,g1,g2,g3,g4,g5,by simpa using hxy.1⟩
theorem open_acts{enc:TypeId×Value->H}{v:Value}{fuel:Nat}{x:DataW H×List MemPlace}(hf:DataW.trod enc Tryz.prog W 0 (fun _=>true) true fuel 24 [v]=some x)(hbd:Rows.uptoBulk x.1<=16777216) :
  ∃a c As,v=.slice a As.length c/\Scr (fun k=>k<W.heap.size) W a As/\As.length<=Rows.uptoBulk x.1:=by
 rcases open_six Tryz.underlying24 Tryz.underlying42 (by kernel_rfl) rfl rfl rfl rfl rfl rfl (by kernel_rfl) (by kernel_rfl) (by kernel_rfl) (by kernel_rfl) (by kernel_rfl) (by kernel_rfl) hf with ⟨hcs,hx⟩ | ⟨x1,len,c,m,n,D,hcs,hl,hmm,hx,hall⟩
 ·simp at hcs
  subst hcs
  exact⟨none,0,[],rfl,⟨.inl rfl,fun p hp=>by cases hp⟩,by simp⟩
 ·simp at hcs
  subst hcs
  have hm':m=c:=by simpa using hmm
  subst hm'
  have hsum:len<=Rows.uptoBulk x.1/\∀i,i<len->Rows.uptoBulk (D i)<=Rows.uptoBulk x.1:=by
   rw[hx]
   have h1:=bulk_slice (H:=H) ((List.range len).map D) ((List.range (m-len)).map fun j=>D (len+j))
   simp only[List.length_map,List.length_range]at h1
   refine⟨h1,fun i hi=>?_⟩
   have:=bulk_mem (d:=D i) (l:=(List.range len).map D) (List.mem_map.2 ⟨i,List.mem_range.2 hi,rfl⟩)
   simp only[Rows.uptoBulk]
   omega
  have each:∀i,i<len->∃q:Aw,(W.cell? (x1.add (i * 6))=some (.int .i64 q.wh)/\W.cell? (x1.add (i * 6+1))=some (.int .i64 q.kd)/\W.cell? (x1.add (i * 6+2))=some (.int .i64 q.tx)/\W.cell? (x1.add (i * 6+3))=some (.int .i64 q.at_)/\W.cell? (x1.add (i * 6+4))=some (.int .i64 q.fl)/\W.cell? (x1.add (i * 6+5))=some (.slice q.ra q.rn q.rc))/\AwIn (fun k=>k<W.heap.size) W q:=by
   intro i hi
   obtain⟨v0,v1,v2,v3,v4,v5,y0,y1,y2,y3,y4,y5,e0,e1,e2,e3,e4,e5,t0,t1,t2,t3,t4,t5,hD⟩:=hall i (by omega)
   obtain⟨q0,eq0,_,_⟩:=DataW.trod_int Tryz.underlying3 t0
   obtain⟨q1,eq1,_,_⟩:=DataW.trod_int Tryz.underlying3 t1
   obtain⟨q2,eq2,_,_⟩:=DataW.trod_int Tryz.underlying3 t2
   obtain⟨q3,eq3,_,wf3⟩:=DataW.trod_int Tryz.underlying3 t3
   obtain⟨q4,eq4,_,_⟩:=DataW.trod_int Tryz.underlying3 t4
   simp at eq0 eq1 eq2 eq3 eq4
   subst eq0 eq1 eq2 eq3 eq4
   obtain⟨aa,nn,cc,zs,rfl,hR,hn,hz⟩:=open_bc t5
   have hb:=hsum.2 i hi
   rw[hD]at hb
   simp only[Rows.uptoBulk,Rows.uptoBulkAll]at hb
   have b3:=bounds_i64 wf3
   exact⟨⟨q0,q1,q2,q3,q4,aa,nn,cc⟩,⟨e0,e1,e2,e3,e4,e5⟩,b3.1,b3.2,by show nn<=_;omega,zs,RdN.of_rd hR (Nat.le_refl _) (fun k hk r=>r hk)⟩
  have:Inhabited Aw:=⟨⟨0,0,0,0,0,none,0,0⟩⟩
  obtain⟨q,hq⟩:=choose_lt each
  have hlen:((List.range len).map q).length=len:=by simp
  refine⟨some x1,m,(List.range len).map q,by rw[hlen],⟨?_,fun p hp=>?_⟩,by rw[hlen];exact hsum.1⟩
  ·by_cases h0:len=0
   ·subst h0;exact .inl rfl
   ·obtain⟨b,off,rfl⟩:=spot_none (by have:=(hq 0 (by omega)).1.1;simpa using this)
    have hbl:b<W.heap.size:=by
     have:=(hq 0 (by omega)).1.1
     rw[add_plain]at this
     exact World.block_lt_of_cell? W ⟨b,off,none⟩ (by simpa using this)
    refine .inr ⟨b,off,rfl,hbl,hbl,fun i d hi=>?_⟩
    have hil:i<len:=by have:=(List.getElem?_eq_some_iff.1 hi).1;simpa using this
    have hd:d=q i:=by
     rw[List.getElem?_map,List.getElem?_range hil]at hi
     simpa using hi.symm
    subst hd
    have hh:=(hq i hil).1
    simp only[add_plain,<- Nat.add_assoc]at hh
    exact hh
  ·obtain⟨i,hi,rfl⟩:=List.mem_map.1 hp
   exact (hq i (List.mem_range.1 hi)).2
theorem open_four {enc:TypeId×Value->H} {base:Nat} {spare:Nat->Bool} {held:Bool} {t e:TypeId} {f0 f1 f2 f3:Field} {fuel:Nat} {cs:List Value} {x:DataW H×List MemPlace}
  (ht:P.underlying t=some (.slice e)) (he:P.underlying e=some (.struct #[f0,f1,f2,f3])) (ce:P.cellsOf e=4) (o0:f0.offset=0) (o1:f1.offset=1) (o2:f2.offset=2) (o3:f3.offset=3) (c0:P.cellsOf f0.type=1) (c1:P.cellsOf f1.type=1) (c2:P.cellsOf f2.type=1) (c3:P.cellsOf f3.type=1)
  (h:DataW.trod enc P w base spare held fuel t cs=some x) :
  (cs=[.slice none 0 0]/\x=(.nil,[])) \/
  ∃(a:Addr) (len cap m n:Nat) (D:Nat->DataW H),cs=[.slice (some a) len cap]/\len<=cap/\m=(if spare a.block then cap else len)/\x.1=.slice ((List.range len).map D) ((List.range (m-len)).map fun j=>D (len+j)) /\
   ∀i,i<m->∃(v0 v1 v2 v3:Value) (y0 y1 y2 y3:DataW H×List MemPlace),w.cell? (a.add (i * 4))=some v0/\w.cell? (a.add (i * 4+1))=some v1/\w.cell? (a.add (i * 4+2))=some v2/\w.cell? (a.add (i * 4+3))=some v3 /\
    DataW.trod enc P w base spare held (n-1) f0.type [v0]=some y0/\DataW.trod enc P w base spare held (n-1) f1.type [v1]=some y1/\DataW.trod enc P w base spare held (n-1) f2.type [v2]=some y2/\DataW.trod enc P w base spare held (n-1) f3.type [v3]=some y3/\D i=.agg [y0.1,y1.1,y2.1,y3.1]:=by
 rcases open_slice ht h with h0 | ⟨a,len,cap,m,n,D,Pl,rfl,hb,hl,hm,hmm,rfl,hx⟩
 ·exact Or.inl h0
 refine .inr ⟨a,len,cap,m,n,D,rfl,hl,hmm,rfl,?_⟩
 intro i hi
 obtain⟨cs',h1,h2⟩:=hx i hi
 rw[ce]at h1
 obtain⟨_,hlen,hcell⟩:=World.cells?_some h1
 obtain⟨xs,k,hk,hxy,_,hxl,hf⟩:=DataW.trod_struct he h2
 have hk':k=n-1:=by omega
 subst hk'
 match xs,hxl,cs',hlen with
 | [y0,y1,y2,y3],_,[v0,v1,v2,v3],_=>
  have g0:=hf 0 f0 rfl
  have g1:=hf 1 f1 rfl
  have g2:=hf 2 f2 rfl
  have g3:=hf 3 f3 rfl
  simp[o0,o1,o2,o3,c0,c1,c2,c3]at g0 g1 g2 g3
  have e0:=hcell 0 (by omega)
  have e1:=hcell 1 (by omega)
  have e2:=hcell 2 (by omega)
  have e3:=hcell 3 (by omega)
  rw[add_add]at e0 e1 e2 e3
  simp only[Prod.mk.injEq]at hxy
  exact⟨v0,v1,v2,v3,y0,y1,y2,y3,by simpa using e0,by simpa using e1,by simpa using e2,by simpa using e3,g0,g1,g2,g3,by simpa using hxy.1⟩
theorem open_bs{enc:TypeId×Value->H}{v:Value}{fuel:Nat}{x:DataW H×List MemPlace}(hf:DataW.trod enc Tryz.prog W 0 (fun _=>true) true fuel 48 [v]=some x) :
  ∃a n c,v=.slice a n c/\RdBQ (fun k=>k<W.heap.size) W a n/\n<=Rows.uptoBulk x.1:=by
 rcases open_slice Tryz.underlying48 hf with ⟨hcs,hx⟩ | ⟨x1,len,c,m,n,D,Pl,hcs,hb,hl,hm,hmm,hx,hall⟩
 ·simp at hcs
  subst hcs
  exact⟨none,0,0,rfl,.inl rfl,by omega⟩
 ·simp at hcs
  subst hcs
  have hm':m=c:=by simpa using hmm
  subst hm'
  have hc1:Tryz.prog.cellsOf 4=1:=by kernel_rfl
  have hcl:∀i,i<len->∃y,W.cell? (x1.add i)=some (.bool y):=fun i hi=>by
   obtain⟨cs',h1,h2⟩:=hall i (by omega)
   obtain⟨y,e,_⟩:=DataW.trod_bool Tryz.underlying4 h2
   rw[hc1,Nat.mul_one]at h1
   obtain⟨_,hlen,hcell⟩:=World.cells?_some h1
   have:=hcell 0 (by omega)
   subst e
   rw[add_add,Nat.add_zero]at this
   exact⟨y,by simpa using this⟩
  refine⟨some x1,len,m,rfl,?_,?_⟩
  ·by_cases h0:len=0
   ·exact .inl h0
   ·obtain⟨y0,hy0⟩:=hcl 0 (by omega)
    obtain⟨b,off,rfl⟩:=spot_none hy0
    have hbl:b<W.heap.size:=by
     rw[add_plain]at hy0
     exact World.block_lt_of_cell? W ⟨b,off,none⟩ (by simpa using hy0)
    refine .inr ⟨b,off,rfl,hbl,hbl,fun i hi=>?_⟩
    obtain⟨y,hy⟩:=hcl i hi
    rw[add_plain]at hy
    exact⟨y,hy⟩
  ·rw[hx]
   have h1:=bulk_slice (H:=H) ((List.range len).map D) ((List.range (m-len)).map fun j=>D (len+j))
   simp only[List.length_map,List.length_range]at h1
   exact h1
theorem bulk_sum{D:Nat->DataW H}{f:Nat->Nat}(h:∀i,i<n->f i<=Rows.uptoBulk (D i)):((List.range n).map f).sum<=Rows.uptoBulkAll ((List.range n).map D):=by
 have key:∀l:List Nat,(∀i∈l,i<n)->(l.map f).sum<=Rows.uptoBulkAll (l.map D):=by
  intro l
  induction l with
  | nil=>intro _;simp[Rows.uptoBulkAll]
  | cons y r ih=>
   intro hl
   have h1:=h y (hl y (by simp))
   have h2:=ih (fun i hi=>hl i (by simp[hi]))
   simp only[List.map_cons,List.sum_cons,Rows.uptoBulkAll]
   omega
 exact key _ (fun i hi=>List.mem_range.1 hi)
theorem open_lives{enc:TypeId×Value->H}{v:Value}{fuel:Nat}{x:DataW H×List MemPlace}(hf:DataW.trod enc Tryz.prog W 0 (fun _=>true) true fuel 46 [v]=some x)(hbd:Rows.uptoBulk x.1<=16777216) :
  ∃a c Ls,v=.slice a Ls.length c/\Lvr (fun k=>k<W.heap.size) W a Ls/\mm Ls Ls.length<=Rows.uptoBulk x.1:=by
 rcases open_four Tryz.underlying46 Tryz.underlying50 (by kernel_rfl) rfl rfl rfl rfl (by kernel_rfl) (by kernel_rfl) (by kernel_rfl) (by kernel_rfl) hf with ⟨hcs,hx⟩ | ⟨x1,len,c,m,n,D,hcs,hl,hmm,hx,hall⟩
 ·simp at hcs
  subst hcs
  exact⟨none,0,[],rfl,⟨.inl rfl,fun p hp=>by cases hp⟩,by simp[mm]⟩
 ·simp at hcs
  subst hcs
  have hm':m=c:=by simpa using hmm
  subst hm'
  have hsum:∀i,i<len->Rows.uptoBulk (D i)<=Rows.uptoBulk x.1:=fun i hi=>by
   rw[hx]
   have:=bulk_mem (d:=D i) (l:=(List.range len).map D) (List.mem_map.2 ⟨i,List.mem_range.2 hi,rfl⟩)
   simp only[Rows.uptoBulk]
   omega
  have each:∀i,i<len->∃q:Lw,(W.cell? (x1.add (i * 4))=some (.int .i64 q.fu)/\W.cell? (x1.add (i * 4+1))=some (.slice q.sa q.As.length q.sc)/\W.cell? (x1.add (i * 4+2))=some (.slice q.ka q.kn q.kc)/\W.cell? (x1.add (i * 4+3))=some (.bool q.lv))/\(Scr (fun k=>k<W.heap.size) W q.sa q.As/\RdBQ (fun k=>k<W.heap.size) W q.ka q.kn/\q.kn<=1073741824)/\q.As.length+2<=Rows.uptoBulk (D i):=by
   intro i hi
   obtain⟨v0,v1,v2,v3,y0,y1,y2,y3,e0,e1,e2,e3,t0,t1,t2,t3,hD⟩:=hall i (by omega)
   obtain⟨q0,eq0,_,_⟩:=DataW.trod_int Tryz.underlying3 t0
   obtain⟨q3,eq3,_⟩:=DataW.trod_bool Tryz.underlying4 t3
   simp at eq0 eq3
   subst eq0 eq3
   have hb:=hsum i hi
   rw[hD]at hb ⊢
   simp only[Rows.uptoBulk,Rows.uptoBulkAll]at hb ⊢
   have b0:=bulk_one y0.1
   have b2:=bulk_one y2.1
   have b3:=bulk_one y3.1
   obtain⟨sa,sc,As,rfl,hS,hlen⟩:=open_acts t1 (by omega)
   obtain⟨ka,kn,kc,rfl,hK,hkn⟩:=open_bs t2
   exact⟨⟨q0,sa,sc,As,ka,kn,kc,q3⟩,⟨e0,e1,e2,e3⟩,⟨hS,hK,by show kn<=_;omega⟩,by show As.length+2<=_;omega⟩
  have:Inhabited Lw:=⟨⟨0,none,0,[],none,0,0,false⟩⟩
  obtain⟨q,hq⟩:=choose_lt each
  have hlen:((List.range len).map q).length=len:=by simp
  refine⟨some x1,m,(List.range len).map q,by rw[hlen],⟨?_,fun p hp=>?_⟩,?_⟩
  ·by_cases h0:len=0
   ·subst h0;exact .inl rfl
   ·obtain⟨b,off,rfl⟩:=spot_none (by have:=(hq 0 (by omega)).1.1;simpa using this)
    have hbl:b<W.heap.size:=by
     have:=(hq 0 (by omega)).1.1
     rw[add_plain]at this
     exact World.block_lt_of_cell? W ⟨b,off,none⟩ (by simpa using this)
    refine .inr ⟨b,off,rfl,hbl,hbl,fun i d hi=>?_⟩
    have hil:i<len:=by have:=(List.getElem?_eq_some_iff.1 hi).1;simpa using this
    have hd:d=q i:=by
     rw[List.getElem?_map,List.getElem?_range hil]at hi
     simpa using hi.symm
    subst hd
    have hh:=(hq i hil).1
    simp only[add_plain,<- Nat.add_assoc]at hh
    exact hh
  ·obtain⟨i,hi,rfl⟩:=List.mem_map.1 hp
   exact (hq i (List.mem_range.1 hi)).2.1
  ·have hs:=bulk_sum (D:=D) (f:=fun i=>(q i).As.length+2) (n:=len) (fun i hi=>(hq i hi).2.2)
   rw[hx]
   have e:mm ((List.range len).map q) ((List.range len).map q).length=((List.range len).map fun i=>(q i).As.length+2).sum:=by
    unfold mm
    rw[List.take_length,List.map_map]
    rfl
   rw[e]
   simp only[Rows.uptoBulk]
   omega
end Go.Proofs.YthfojpcibnfmgaaGreat
