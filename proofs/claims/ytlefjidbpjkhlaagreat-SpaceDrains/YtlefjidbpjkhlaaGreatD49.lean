import Derived.Test.YtlefjidbpjkhlaaGreatD48
import Derived.Test.YtlefjidbpjkhlaaGreatRows
import Derived.Test.YtlefjidbpjkhlaaGreatChecked
import Derived.ProofKit
import Derived.OpenShut
import Derived.SizedLaws
import Derived.Lib.SmallJoins
import Derived.Deep.Slices
import Derived.JoinedCond
import Derived.ChangeOld
import Derived.Below
set_option maxRecDepth 100000
set_option maxHeartbeats 16000000
namespace Go.Proofs.YtlefjidbpjkhlaaGreat.spaceDrains
variable {W:World}
variable {v:Value}
variable {H:Type}
open Go.ChangeShapes Go.WideShapes Go.ChangeAt Go.RowKit Go.Deep
theorem own:ownKnob Tryz.prog.godebug=none:=by kernel_rfl
theorem laidOut:laidOutB Tryz.prog=true:=by kernel_rfl
theorem spot_none{x:Addr}(h:W.cell? (x.add 0)=some v):∃b off,x=⟨b,off,none⟩:=by
 obtain⟨b,off,spot⟩:=x
 have hspot:spot=none:=by simpa [Addr.add] using World.cell?_spot h
 subst hspot
 exact⟨b,off,rfl⟩
theorem add_plain(b off t:Nat):(⟨b,off,none⟩:Addr).add t=⟨b,off+t,none⟩:=by unfold Addr.add;split <;> simp_all
theorem open_bs{enc:TypeId×Value->H}{fuel:Nat}{x:DataW H×List MemPlace}(hf:DataW.trod enc Tryz.prog W 0 (fun _=>true) true fuel 22 [v]=some x) :
  ∃a n c p,v=.slice a n c/\RdL (fun k=>W.heap.size<=k) W a n p:=by
 rcases open_slice Tryz.underlying22 hf with ⟨hcs,hx⟩ | ⟨x1,len,c,m,n,D,Pl,hcs,hb,hl,hm,hmm,hx,hall⟩
 ·simp at hcs
  subst hcs
  exact⟨none,0,0,fun _=>false,rfl,.inl rfl⟩
 ·simp at hcs
  subst hcs
  have hm':m=c:=by simpa using hmm
  subst hm'
  have hc1:Tryz.prog.cellsOf 4=1:=by kernel_rfl
  have hcl:∀i,i<len->∃y,W.cell? (x1.add i)=some (.bool y):=fun i hi=>by
   obtain⟨cs',h1,h2⟩:=hall i (by omega)
   obtain⟨y,e,_⟩:=DataW.trod_bool Tryz.underlying4 h2
   rw[hc1,Nat.mul_one]at h1
   obtain⟨_,hlen,hcell⟩:=World.cells?_some h1
   have:=hcell 0 (by omega)
   subst e
   rw[Addr.add_add,Nat.add_zero]at this
   exact⟨y,by simpa using this⟩
  by_cases h0:len=0
  ·exact⟨some x1,len,m,fun _=>false,rfl,.inl h0⟩
  ·have hch:∃p:Nat->Bool,∀i,i<len->W.cell? (x1.add i)=some (.bool (p i)) :=
    ⟨fun i=>if h:i<len then Classical.choose (hcl i h) else false,fun i hi=>by
     have e:(if h:i<len then Classical.choose (hcl i h) else false)=Classical.choose (hcl i hi):=dif_pos hi
     show W.cell? (x1.add i)=some (.bool (if h:i<len then Classical.choose (hcl i h) else false))
     rw[e]
     exact Classical.choose_spec (hcl i hi)⟩
   obtain⟨p,hpc⟩:=hch
   have hy0:=hpc 0 (by omega)
   obtain⟨b,off,rfl⟩:=spot_none hy0
   have hbl:b<W.heap.size:=by
    rw[add_plain]at hy0
    exact World.block_lt_of_cell? W ⟨b,off,none⟩ (by simpa using hy0)
   refine⟨some ⟨b,off,none⟩,len,m,p,rfl,.inr ⟨b,off,rfl,hbl,by omega,fun i hi=>?_⟩⟩
   have:=hpc i hi
   rwa [add_plain]at this
theorem lifted(os:Os)(started:os.Started)(H:Type)(enc:TypeId×Value->H) :
  ReturnsInHanded {} Tryz.checked os 3 .any (Rows.spaceDrainsSpec.pre6 enc Tryz.prog Tryz.f3 Rows.spaceDrainsRow.domain false) (Rows.spaceDrainsSpec.post enc Tryz.prog Tryz.f3 false true false false):=by
 refine returnsInHanded_of_change_sized (C:=Tryz.checked) own started (by kernel_rfl) Tryz.func3
  (ChangeSpec.witness6 (enc:=enc) (C:=Tryz.checked) false ⟨#[],#[.int .i64 0,.int .i64 0,.slice none 0 0,.slice none 0 0],[]⟩ 8 (by kernel_rfl) (by kernel_rfl) (by kernel_rfl) (by kernel_rfl)) ?_
 intro W base args ds gs before hval0 hW hcnd hsz0 _
 have hval:∀(j:Nat) t v,Tryz.f3.params[j]?=some t->args[j]?=some v->Value.okWide Tryz.prog W .any base t v:=hval0
 have hW':=hW
 obtain⟨p,q,hA0,hV,rfl,hfz,hnd⟩:=hW
 have hA:DataW.TrodAll enc Tryz.prog W 0 (fun _=>true) true Tryz.f3.params.toList args.toList ds p:=hA0
 rw[Tryz.params3]at hA hval
 obtain⟨v0,vs0,d0,ds0,p0,q0,hargs,rfl,rfl,h0,r0⟩:=trodAll_cons hA
 obtain⟨v1,vs1,d1,ds1,p1,q1,rfl,rfl,rfl,h1,r1⟩:=trodAll_cons r0
 obtain⟨v2,vs2,d2,ds2,p2,q2,rfl,rfl,rfl,h2,r2⟩:=trodAll_cons r1
 obtain⟨v3,vs3,d3,ds3,p3,q3,rfl,rfl,rfl,h3,r3⟩:=trodAll_cons r2
 obtain⟨rfl,rfl,rfl⟩:=trodAll_nil r3
 obtain rfl:args=#[v0,v1,v2,v3]:=by cases args;simp_all
 obtain⟨rfl,rfl⟩:=trodVars_none hV
 have lt2:∀x∈p2,x.block<W.heap.size:=by obtain⟨m,hm⟩:=h2;exact DataW.trod_lt m _ _ _ hm
 have lt3:∀x∈p3,x.block<W.heap.size:=by obtain⟨m,hm⟩:=h3;exact DataW.trod_lt m _ _ _ hm
 obtain⟨x0,rfl,rfl,rfl,w0⟩:=open_int Tryz.underlying3 (hval 0 3 v0 rfl rfl) h0
 obtain⟨x1,rfl,rfl,rfl,w1⟩:=open_int Tryz.underlying3 (hval 1 3 v1 rfl rfl) h1
 obtain⟨a2,len2,cap2,rfl⟩:=okWide_slice Tryz.underlying22 (hval 2 22 v2 rfl rfl)
 obtain⟨a3,len3,cap3,rfl⟩:=okWide_slice Tryz.underlying22 (hval 3 22 v3 rfl rfl)
 have h2k:=h2
 have h3k:=h3
 obtain⟨fuel2,h2'⟩:=h2
 obtain⟨fuel3,h3'⟩:=h3
 obtain⟨pa,pn,pc,pp,he2,hp⟩:=open_bs h2'
 obtain⟨ma,mn,mc,mm,he3,hm⟩:=open_bs h3'
 obtain⟨rfl,rfl,rfl⟩:a2=pa/\len2=pn/\cap2=pc:=by injection he2 with x y z;exact⟨x,y,z⟩
 obtain⟨rfl,rfl,rfl⟩:a3=ma/\len3=mn/\cap3=mc:=by injection he3 with x y z;exact⟨x,y,z⟩
 clear hA0 hval0
 refine (drains_law x0 x1 a2 a3 len2 cap2 len3 cap3 pp mm W hp hm).mono fun e W' ⟨he,bel⟩=>?_
 subst he
 exact⟨_,rfl,_,_,_,[],_,[],hW',trodAll_mk1 (shut_bool Tryz.underlying4 _),
  (trodAll_cons_mk (shut_int Tryz.underlying3 w0) (trodAll_cons_mk (shut_int Tryz.underlying3 w1) (trodAll_cons_mk (Below.trod laidOut (by kernel_rfl) (of_decide_eq_true (by kernel_rfl)) h2k bel lt2) (trodAll_cons_mk (Below.trod laidOut (by kernel_rfl) (of_decide_eq_true (by kernel_rfl)) h3k bel lt3) trodAll_mk0)))),rfl,bel.frame _,fun h=>by cases h⟩
theorem proved:Rows.SpaceDrainsSaid :=
 OpenClaim.holds_of_wide 3 Tryz.f3 rfl rfl rfl rfl rfl rfl rfl ⟨rfl,rfl,rfl,rfl,rfl⟩ rfl rfl rfl rfl rfl (by kernel_rfl) Tryz.func3 (by kernel_rfl)
  (of_decide_eq_true (by kernel_rfl)) (by unfold Func.isWrapper;first | (rw[if_pos (by decide +kernel)];kernel_rfl) | (rw[if_neg (by decide +kernel)];exact⟨rfl,rfl⟩))
  (fun os started H enc _=>lifted os started H enc)
end Go.Proofs.YtlefjidbpjkhlaaGreat.spaceDrains
