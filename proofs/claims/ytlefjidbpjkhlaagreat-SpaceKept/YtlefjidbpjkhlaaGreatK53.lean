import Derived.Test.YtlefjidbpjkhlaaGreatK52
import Derived.Test.YtlefjidbpjkhlaaGreatRows
import Derived.ProofKit
import Derived.OpenShut
import Derived.SizedLaws
import Derived.Lib.SmallJoins
import Derived.Deep.Slices
import Derived.JoinedCond
import Derived.ChangeOld
import Derived.Below
set_option maxRecDepth 100000
set_option maxHeartbeats 16000000
namespace Go.Proofs.YtlefjidbpjkhlaaGreat.spaceKept
variable {H:Type}
variable {W w:World}
variable {v:Value}
variable {P:Program}
open Go.ChangeShapes Go.WideShapes Go.ChangeAt Go.RowKit Go.Deep
theorem own:ownKnob Tryz.prog.godebug=none:=by kernel_rfl
theorem laidOut:laidOutB Tryz.prog=true:=by kernel_rfl
theorem bulk_one(d:DataW H):1<=Rows.uptoBulk d:=by
 cases d with
 | lit l=>cases l <;> simp[Rows.uptoBulk]
 | nil=>simp[Rows.uptoBulk]
 | ptr d=>simp[Rows.uptoBulk]
 | slice elems spare=>simp[Rows.uptoBulk]
 | agg parts=>simp[Rows.uptoBulk]
 | iface t d=>simp[Rows.uptoBulk]
 | map entries=>simp[Rows.uptoBulk]
 | held h=>simp[Rows.uptoBulk]
theorem bulk_len(l:List (DataW H)):l.length<=Rows.uptoBulkAll l:=by
 induction l with
 | nil=>simp[Rows.uptoBulkAll]
 | cons x r ih=>have:=bulk_one x;simp only[Rows.uptoBulkAll,List.length_cons];omega
theorem bulk_mem{d:DataW H}{l:List (DataW H)}(h:d∈l):Rows.uptoBulk d<=Rows.uptoBulkAll l:=by
 induction l with
 | nil=>cases h
 | cons x r ih=>
  simp only[Rows.uptoBulkAll]
  cases List.mem_cons.1 h with
  | inl e=>subst e;omega
  | inr e=>have:=ih e;omega
theorem bulk_slice(elems spare:List (DataW H)):elems.length<=Rows.uptoBulk (.slice elems spare):=by
 have h1:=bulk_len elems
 simp only[Rows.uptoBulk]
 omega
theorem bulk_bound{l:List (DataW H)}(hk:Rows.uptoSmall H l=true):Rows.uptoBulkAll l<=1048576:=of_decide_eq_true hk
theorem spot_none{x:Addr}(h:W.cell? (x.add 0)=some v):∃b off,x=⟨b,off,none⟩:=by
 obtain⟨b,off,spot⟩:=x
 have hspot:spot=none:=by simpa [Addr.add] using World.cell?_spot h
 subst hspot
 exact⟨b,off,rfl⟩
theorem add_plain(b off t:Nat):(⟨b,off,none⟩:Addr).add t=⟨b,off+t,none⟩:=by unfold Addr.add;split <;> simp_all
theorem open_four {enc:TypeId×Value->H} {base:Nat} {spare:Nat->Bool} {held:Bool} {t e:TypeId} {f0 f1 f2 f3:Field} {fuel:Nat} {cs:List Value} {x:DataW H×List MemPlace}
  (ht:P.underlying t=some (.slice e)) (he:P.underlying e=some (.struct #[f0,f1,f2,f3])) (ce:P.cellsOf e=4) (o0:f0.offset=0) (o1:f1.offset=1) (o2:f2.offset=2) (o3:f3.offset=3) (c0:P.cellsOf f0.type=1) (c1:P.cellsOf f1.type=1) (c2:P.cellsOf f2.type=1) (c3:P.cellsOf f3.type=1)
  (h:DataW.trod enc P w base spare held fuel t cs=some x) :
  (cs=[.slice none 0 0]/\x=(.nil,[])) \/
  ∃(a:Addr) (len cap m n:Nat) (D:Nat->DataW H),cs=[.slice (some a) len cap]/\len<=cap/\m=(if spare a.block then cap else len)/\x.1=.slice ((List.range len).map D) ((List.range (m-len)).map fun j=>D (len+j)) /\
   ∀i,i<m->∃(v0 v1 v2 v3:Value) (y0 y1 y2 y3:DataW H×List MemPlace),w.cell? (a.add (i * 4))=some v0/\w.cell? (a.add (i * 4+1))=some v1/\w.cell? (a.add (i * 4+2))=some v2/\w.cell? (a.add (i * 4+3))=some v3 /\
    DataW.trod enc P w base spare held (n-1) f0.type [v0]=some y0/\DataW.trod enc P w base spare held (n-1) f1.type [v1]=some y1/\DataW.trod enc P w base spare held (n-1) f2.type [v2]=some y2/\DataW.trod enc P w base spare held (n-1) f3.type [v3]=some y3/\D i=.agg [y0.1,y1.1,y2.1,y3.1]:=by
 rcases open_slice ht h with h0 | ⟨a,len,cap,m,n,D,Pl,rfl,hb,hl,hm,hmm,rfl,hx⟩
 ·exact Or.inl h0
 refine .inr ⟨a,len,cap,m,n,D,rfl,hl,hmm,rfl,?_⟩
 intro i hi
 obtain⟨cs',h1,h2⟩:=hx i hi
 rw[ce]at h1
 obtain⟨_,hlen,hcell⟩:=World.cells?_some h1
 obtain⟨xs,k,hk,hxy,_,hxl,hf⟩:=DataW.trod_struct he h2
 have hk':k=n-1:=by omega
 subst hk'
 match xs,hxl,cs',hlen with
 | [y0,y1,y2,y3],_,[v0,v1,v2,v3],_=>
  have g0:=hf 0 f0 rfl
  have g1:=hf 1 f1 rfl
  have g2:=hf 2 f2 rfl
  have g3:=hf 3 f3 rfl
  simp[o0,o1,o2,o3,c0,c1,c2,c3]at g0 g1 g2 g3
  have e0:=hcell 0 (by omega)
  have e1:=hcell 1 (by omega)
  have e2:=hcell 2 (by omega)
  have e3:=hcell 3 (by omega)
  rw[Addr.add_add]at e0 e1 e2 e3
  simp only[Prod.mk.injEq]at hxy
  exact⟨v0,v1,v2,v3,y0,y1,y2,y3,by simpa using e0,by simpa using e1,by simpa using e2,by simpa using e3,g0,g1,g2,g3,by simpa using hxy.1⟩
theorem trod_array2 {enc:TypeId×Value->H} {base:Nat} {spare:Nat->Bool} {held:Bool} {t e:TypeId} {fuel:Nat} {c0 c1:Value} {x:DataW H×List MemPlace} (ht:P.underlying t=some (.array 2 e)) (hce:P.cellsOf e=1)
  (h:DataW.trod enc P w base spare held fuel t [c0,c1]=some x) :
  ∃y0 y1 n,DataW.trod enc P w base spare held n e [c0]=some y0/\DataW.trod enc P w base spare held n e [c1]=some y1:=by
 cases fuel with
 | zero=>simp[DataW.trod]at h
 | succ n=>
  unfold DataW.trod at h
  rw[ht]at h
  have r2:List.range 2=[0,1]:=rfl
  simp[r2,hce]at h
  obtain⟨_,h⟩:=h
  cases h0:DataW.trod enc P w base spare held n e [c0] with
  | none=>simp[h0]at h
  | some y0=>
   cases h1:DataW.trod enc P w base spare held n e [c1] with
   | none=>simp[h0,h1]at h
   | some y1=>exact⟨y0,y1,n,h0,h1⟩
theorem open_pair{enc:TypeId×Value->H}{r:Reach}{b0:Nat}{d:DataW H}{p:List MemPlace}(hv:Value.okWide Tryz.prog W r b0 26 v)(h:DataW.Trod enc Tryz.prog W 0 (fun _=>true) true 26 v d p):∃a b:Int,v=.agg #[.int .i64 a,.int .i64 b]:=by
 simp only[Value.okWide,Tryz.underlying26]at hv
 obtain⟨cs,rfl,h2,_⟩:=hv
 have hC:Tryz.prog.cellsOf 26=2:=by kernel_rfl
 have hc1:Tryz.prog.cellsOf 3=1:=by kernel_rfl
 obtain⟨c0,c1,rfl⟩:=Go.Joins.array2 (h2.trans hC)
 obtain⟨fuel,hf⟩:=h
 have hf':DataW.trod enc Tryz.prog W 0 (fun _=>true) true fuel 26 [c0,c1]=some (d,p):=hf
 obtain⟨y0,y1,m,e0,e1⟩:=trod_array2 Tryz.underlying26 hc1 hf'
 obtain⟨a,ea,_,_⟩:=DataW.trod_int Tryz.underlying3 e0
 obtain⟨b,eb,_,_⟩:=DataW.trod_int Tryz.underlying3 e1
 simp only[List.cons.injEq,and_true]at ea eb
 subst ea eb
 exact⟨a,b,rfl⟩
theorem open_acts{enc:TypeId×Value->H}{fuel:Nat}{x:DataW H×List MemPlace}(hf:DataW.trod enc Tryz.prog W 0 (fun _=>true) true fuel 52 [v]=some x) :
  ∃a M c sb so,v=.slice a M c/\(M=0\/a=some ⟨sb,so,none⟩)/\(M=0\/sb<W.heap.size)/\(∀i,i<M->∃wh kd b tt:Int,W.cell? ⟨sb,so+i * 4,none⟩=some (.int .i64 wh)/\W.cell? ⟨sb,so+i * 4+1,none⟩=some (.int .i64 kd)/\W.cell? ⟨sb,so+i * 4+2,none⟩=some (.int .i64 b)/\W.cell? ⟨sb,so+i * 4+3,none⟩=some (.int .i64 tt))/\M<=Rows.uptoBulk x.1:=by
 rcases open_four Tryz.underlying52 Tryz.underlying60 (by kernel_rfl) rfl rfl rfl rfl (by kernel_rfl) (by kernel_rfl) (by kernel_rfl) (by kernel_rfl) hf with ⟨hcs,hx⟩ | ⟨x1,len,c,m,n,D,hcs,hl,hmm,hx,hall⟩
 ·simp at hcs
  subst hcs
  exact⟨none,0,0,0,0,rfl,.inl rfl,.inl rfl,fun i hi=>by omega,Nat.zero_le _⟩
 ·simp at hcs
  subst hcs
  have hm':m=c:=by simpa using hmm
  subst hm'
  have hb:len<=Rows.uptoBulk x.1:=by
   rw[hx]
   have h1:=bulk_slice (H:=H) ((List.range len).map D) ((List.range (m-len)).map fun j=>D (len+j))
   simp only[List.length_map,List.length_range]at h1
   exact h1
  have hcl:∀i,i<len->∃wh kd b tt:Int,W.cell? (x1.add (i * 4))=some (.int .i64 wh)/\W.cell? (x1.add (i * 4+1))=some (.int .i64 kd)/\W.cell? (x1.add (i * 4+2))=some (.int .i64 b)/\W.cell? (x1.add (i * 4+3))=some (.int .i64 tt):=fun i hi=>by
   obtain⟨v0,v1,v2,v3,y0,y1,y2,y3,e0,e1,e2,e3,t0,t1,t2,t3,_⟩:=hall i (by omega)
   obtain⟨z0,f0,_,_⟩:=DataW.trod_int Tryz.underlying3 t0
   obtain⟨z1,f1,_,_⟩:=DataW.trod_int Tryz.underlying3 t1
   obtain⟨z2,f2,_,_⟩:=DataW.trod_int Tryz.underlying3 t2
   obtain⟨z3,f3,_,_⟩:=DataW.trod_int Tryz.underlying3 t3
   simp only[List.cons.injEq,and_true]at f0 f1 f2 f3
   subst f0 f1 f2 f3
   exact⟨z0,z1,z2,z3,e0,e1,e2,e3⟩
  by_cases h0:len=0
  ·exact⟨some x1,len,m,0,0,rfl,.inl h0,.inl h0,fun i hi=>by omega,hb⟩
  ·obtain⟨_,_,_,_,hy0,_⟩:=hcl 0 (by omega)
   rw[Nat.zero_mul]at hy0
   obtain⟨b,off,rfl⟩:=spot_none hy0
   have hbl:b<W.heap.size:=by
    rw[add_plain]at hy0
    exact World.block_lt_of_cell? W ⟨b,off,none⟩ (by simpa using hy0)
   refine⟨some ⟨b,off,none⟩,len,m,b,off,rfl,.inr rfl,.inr hbl,fun i hi=>?_,hb⟩
   obtain⟨z0,z1,z2,z3,e0,e1,e2,e3⟩:=hcl i hi
   rw[add_plain]at e0 e1 e2 e3
   exact⟨z0,z1,z2,z3,e0,e1,e2,e3⟩
theorem contract (H:Type) (enc:TypeId×Value->H) (W:World) (base:Nat) (args:Array Value) (ds gs:List (DataW H)) (before:List MemPlace)
  (hval:∀(j:Nat) t v,Tryz.f5.params[j]?=some t->args[j]?=some v->Value.okWide Tryz.prog W .any base t v)
  (hW:DataW.Whole enc Tryz.prog Tryz.f5.params.toList Rows.spaceKeptSpec.vars false W args.toList ds gs before) (hk:Rows.uptoSmall H (ds++gs)=true) :
  Calls Tryz.prog 5 args W fun e W'=>∃v,e=.returned v/\Rows.spaceKeptSpec.post enc Tryz.prog Tryz.f5 false true false false W args v W':=by
 have hW':=hW
 obtain⟨p,q,hA0,hV,rfl,hfz,hnd⟩:=hW
 have hA:DataW.TrodAll enc Tryz.prog W 0 (fun _=>true) true Tryz.f5.params.toList args.toList ds p:=hA0
 rw[Tryz.params5]at hA hval
 obtain⟨v0,vs0,d0,ds0,p0,q0,hargs0,rfl,rfl,h0,r0⟩:=trodAll_cons hA
 obtain⟨v1,vs1,d1,ds1,p1,q1,hargs1,rfl,rfl,h1,r1⟩:=trodAll_cons r0
 obtain⟨v2,vs2,d2,ds2,p2,q2,hargs2,rfl,rfl,h2,r2⟩:=trodAll_cons r1
 obtain⟨rfl,rfl,rfl⟩:=trodAll_nil r2
 obtain rfl:args=#[v0,v1,v2]:=by cases args;simp_all
 obtain⟨rfl,rfl⟩:=trodVars_none hV
 have lt0:∀x∈p0,x.block<W.heap.size:=by obtain⟨m,hm⟩:=h0;exact DataW.trod_lt m _ _ _ hm
 have lt1:∀x∈p1,x.block<W.heap.size:=by obtain⟨m,hm⟩:=h1;exact DataW.trod_lt m _ _ _ hm
 have lt2:∀x∈p2,x.block<W.heap.size:=by obtain⟨m,hm⟩:=h2;exact DataW.trod_lt m _ _ _ hm
 simp only[List.append_nil]at hk
 have hb:=bulk_bound hk
 have m2:=bulk_mem (d:=d2) (l:=[d0,d1,d2]) (by simp)
 obtain⟨a,b,rfl⟩:=open_pair (hval 0 26 v0 rfl rfl) h0
 obtain⟨c,d,rfl⟩:=open_pair (hval 1 26 v1 rfl rfl) h1
 obtain⟨a1,len1,cap1,rfl⟩:=okWide_slice Tryz.underlying52 (hval 2 52 v2 rfl rfl)
 have h2k:=h2
 obtain⟨fuel2,h2'⟩:=h2
 obtain⟨sa,M,sc,sb,so,he1,hsa,hsb,hcl,hpl⟩:=open_acts h2'
 obtain⟨rfl,rfl,rfl⟩:a1=sa/\len1=M/\cap1=sc:=by injection he1 with x y z;exact⟨x,y,z⟩
 have hpl':len1<=Rows.uptoBulk d2:=hpl
 clear hA0
 refine (kept_law a b c d a1 len1 cap1 sb so W (by omega) hsa hsb hcl).mono fun e W' ⟨he,bel⟩=>?_
 subst he
 exact⟨_,rfl,_,_,_,[],_,[],hW',trodAll_mk1 (shut_bool Tryz.underlying4 _),
  (trodAll_cons_mk (Below.trod laidOut (by kernel_rfl) (of_decide_eq_true (by kernel_rfl)) h0 bel lt0) (trodAll_cons_mk (Below.trod laidOut (by kernel_rfl) (of_decide_eq_true (by kernel_rfl)) h1 bel lt1) (trodAll_cons_mk (Below.trod laidOut (by kernel_rfl) (of_decide_eq_true (by kernel_rfl)) h2k bel lt2) trodAll_mk0))),rfl,bel.frame _,fun h=>by cases h⟩
theorem lifted(os:Os)(started:os.Started)(H:Type)(enc:TypeId×Value->H)(F:Stop.Interp) :
  ReturnsInHanded {} Tryz.checked os 5 .any ((Rows.OpenSpec.upto Rows.spaceKeptSpec).pre6 enc Tryz.prog Tryz.f5 Rows.spaceKeptUptoRow.domain false) (((Rows.OpenSpec.upto Rows.spaceKeptSpec).at F).post enc Tryz.prog Tryz.f5 false true false false):=by
 refine returnsInHanded_of_cond (C:=Tryz.checked) (s:=Rows.OpenSpec.upto Rows.spaceKeptSpec) (k:=Rows.uptoSmall) rfl own started (by kernel_rfl) Tryz.func5
  (OpenSpec.witness (enc:=enc) (C:=Tryz.checked) (s:=Rows.OpenSpec.upto Rows.spaceKeptSpec) (k:=Rows.uptoSmall) rfl false ⟨#[],#[.agg #[.int .i64 0,.int .i64 0],.agg #[.int .i64 0,.int .i64 0],.slice none 0 0],[]⟩ 8 (by kernel_rfl) (by kernel_rfl) (by kernel_rfl)
   (x:=([.agg [.lit (.int .i64 0),.lit (.int .i64 0)],.agg [.lit (.int .i64 0),.lit (.int .i64 0)],.nil],[],[])) (by kernel_rfl) rfl (by kernel_rfl)) ?_
 intro W base args ds gs before hval hW _ hk _
 exact contract H enc W base args ds gs before hval hW hk
theorem proved:Rows.SpaceKeptUptoSaid :=
 OpenClaim.holds_of_cond 5 Tryz.f5 rfl rfl rfl rfl rfl rfl rfl ⟨rfl,rfl,rfl,rfl,rfl⟩ rfl rfl rfl rfl rfl (by kernel_rfl) Tryz.func5 (by kernel_rfl)
  (of_decide_eq_true (by kernel_rfl)) (by unfold Func.isWrapper;first | (rw[if_pos (by decide +kernel)];kernel_rfl) | (rw[if_neg (by decide +kernel)];exact⟨rfl,rfl⟩))
  (fun os started H enc _ F=>lifted os started H enc F)
end Go.Proofs.YtlefjidbpjkhlaaGreat.spaceKept
