import Derived.Test.YtlefjidbpjkhlaaGreatK44
import Derived.Test.YtlefjidbpjkhlaaGreatK45
set_option maxRecDepth 100000
set_option maxHeartbeats 16000000
namespace Go.Proofs.YtlefjidbpjkhlaaGreat
variable {z:List Int}
variable {M M' b f i j k m n o q r tr y:Nat}
variable {C:Nat->List Int}
variable {α:Type}
variable {L:Nat->Option (List Int)}
variable {cnt:Int}
open Go.RowKit
theorem win_splice{cs:List Int}{off a:Nat}(h:off+cs.length<=z.length)(hd:a+n<=off\/off+cs.length<=a):((splice z off cs).drop a).take n=(z.drop a).take n:=by
 apply List.ext_getElem?
 intro t
 rw[List.getElem?_take,List.getElem?_take,List.getElem?_drop,List.getElem?_drop,get_splice h]
 by_cases ht:t<n
 ·rw[if_pos ht,if_pos ht]
  by_cases h1:a+t<off
  ·rw[if_pos h1]
  ·rw[if_neg h1,if_neg (by omega)]
 ·rw[if_neg ht,if_neg ht]
theorem win_in{c1 c2:List Int}{off:Nat}(h:off+(c1++c2).length<=z.length):((splice z off (c1++c2)).drop off).take c1.length=c1/\((splice z off (c1++c2)).drop (off+c1.length)).take c2.length=c2:=by
 have h0:off<=z.length:=by omega
 refine⟨?_,?_⟩
 ·rw[dropSp _ _ _ h0,List.append_assoc,List.take_append_of_le_length (Nat.le_refl _),List.take_length]
 ·rw[<- List.drop_drop,dropSp _ _ _ h0,List.append_assoc,List.drop_append_of_le_length (Nat.le_refl _),List.drop_length,List.nil_append,List.take_append_of_le_length (Nat.le_refl _),List.take_length]
theorem getD_splice{cs:List Int}{off a:Nat}(h:off+cs.length<=z.length)(hd:a<off\/off+cs.length<=a):(splice z off cs).getD a 0=z.getD a 0:=by
 rw[List.getD_eq_getElem?_getD,List.getD_eq_getElem?_getD,get_splice h]
 by_cases h1:a<off
 ·rw[if_pos h1]
 ·rw[if_neg h1,if_neg (by omega)]
theorem len_splice{cs:List Int}{off:Nat}(h:off+cs.length<=z.length):(splice z off cs).length=z.length:=by
 unfold splice
 simp only[List.length_append,List.length_take,List.length_drop]
 omega
theorem entZ_eq(tk tr:Nat):entZ tk tr=Pl.dig (tk:Int) 2++Pl.dig (tr:Int) 6:=by simp[entZ,packZ]
theorem tkn_ent{tk:Nat}(hz:z.length=512)(hi:i<60)(h1:tk<=65535):tknZ (splice z (32+8 * i) (entZ tk tr)) i=(tk:Int):=by
 unfold tknZ
 rw[entZ_eq]
 have:=(win_in (z:=z) (off:=32+8 * i) (c1:=Pl.dig (tk:Int) 2) (c2:=Pl.dig (tr:Int) 6) (by rw[List.length_append,Pl.length_dig,Pl.length_dig];omega)).1
 rw[Pl.length_dig]at this
 rw[this]
 exact Pl.num_dig _ _ (by omega) (by omega)
theorem trn_ent{tk:Nat}(hz:z.length=512)(hi:i<60)(h1:tr<=281474976710655):trnZ (splice z (32+8 * i) (entZ tk tr)) i=(tr:Int):=by
 unfold trnZ
 rw[entZ_eq]
 have:=(win_in (z:=z) (off:=32+8 * i) (c1:=Pl.dig (tk:Int) 2) (c2:=Pl.dig (tr:Int) 6) (by rw[List.length_append,Pl.length_dig,Pl.length_dig];omega)).2
 rw[Pl.length_dig,Pl.length_dig]at this
 rw[show 34+8 * i=32+8 * i+2 from by omega,this]
 exact Pl.num_dig _ _ (by omega) (by omega)
theorem tkn_splice{cs:List Int}{off:Nat}(h:off+cs.length<=z.length)(hd:40+8 * i<=off\/off+cs.length<=32+8 * i):tknZ (splice z off cs) i=tknZ z i:=by
 unfold tknZ
 rw[win_splice h (by omega)]
theorem trn_splice{cs:List Int}{off:Nat}(h:off+cs.length<=z.length)(hd:40+8 * i<=off\/off+cs.length<=32+8 * i):trnZ (splice z off cs) i=trnZ z i:=by
 unfold trnZ
 rw[win_splice h (by omega)]
theorem szOf_splice{cs:List Int}{off:Nat}(h:off+cs.length<=z.length)(hd:29<=off):szOf (splice z off cs)=szOf z:=by
 unfold szOf
 rw[win_splice h (by omega)]
theorem lfOf_splice{cs:List Int}{off:Nat}(h:off+cs.length<=z.length)(hd:29<=off):lfOf (splice z off cs)=lfOf z:=by
 unfold lfOf
 rw[win_splice h (by omega)]
theorem szOf_head{sz lf:Nat}(hz:z.length=512)(h:sz<=262144):szOf (splice z 21 (sheadZ sz lf))=(sz:Int):=by
 unfold szOf
 rw[sheadZ_eq]
 have:=(win_in (z:=z) (off:=21) (c1:=Pl.dig (sz:Int) 3) (c2:=Pl.dig (lf:Int) 5) (by rw[List.length_append,Pl.length_dig,Pl.length_dig];omega)).1
 rw[Pl.length_dig]at this
 rw[this]
 exact Pl.num_dig _ _ (by omega) (by omega)
theorem lfOf_head{sz lf:Nat}(hz:z.length=512)(h:lf<=1099511627775):lfOf (splice z 21 (sheadZ sz lf))=(lf:Int):=by
 unfold lfOf
 rw[sheadZ_eq]
 have:=(win_in (z:=z) (off:=21) (c1:=Pl.dig (sz:Int) 3) (c2:=Pl.dig (lf:Int) 5) (by rw[List.length_append,Pl.length_dig,Pl.length_dig];omega)).2
 rw[Pl.length_dig,Pl.length_dig]at this
 rw[show 24=21+3 from rfl,this]
 exact Pl.num_dig _ _ (by omega) (by omega)
theorem getD_spgZ{a:Nat}(h:21<=a):(spgZ r n).getD a 0=0:=by
 have h1:0+(hdgZ r n).length<=(zeros 512).length:=by rw[length_hdgZ,zeros,List.length_replicate];omega
 unfold spgZ
 rw[getD_splice h1 (.inr (by rw[length_hdgZ];omega))]
 unfold zeros
 rw[List.getD_eq_getElem?_getD,List.getElem?_replicate]
 split <;> rfl
theorem num_zero{l:List Int}(h:∀z∈l,z=0):Pl.num l=0:=by
 induction l with
 | nil=>rfl
 | cons a l ih=>rw[Pl.num,h a (List.mem_cons_self ..),ih (fun z hz=>h z (List.mem_cons_of_mem _ hz))];rfl
theorem win_zero{a:Nat}(h:∀t,a<=t->z.getD t 0=0):Pl.num ((z.drop a).take n)=0:=by
 refine num_zero (fun x hx=>?_)
 obtain⟨t,ht,rfl⟩:=List.mem_iff_getElem.1 (List.mem_of_mem_take hx)
 rw[List.getElem_drop]
 have:=h (a+t) (by omega)
 rw[List.getD_eq_getElem?_getD,List.getElem?_eq_getElem (by rw[List.length_drop]at ht;omega)]at this
 exact this
theorem trn_spgZ(r n i:Nat):trnZ (spgZ r n) i=0:=win_zero (fun _ h=>getD_spgZ (by omega))
def nzG (z:List Int):Nat:=((List.range 480).filter (fun i=>z.getD (32+i) 0 != 0)).length
theorem filter_zero{p:Nat->Bool}(h:((List.range n).filter p).length=0):∀i,i<n->p i=false:=fun i hi=>by
 have h1:=List.filter_eq_nil_iff.1 (List.length_eq_zero_iff.1 h) i (List.mem_range.2 hi)
 simpa using h1
theorem nzG_zero(h:nzG z=0)(i:Nat)(hi:i<480):z.getD (32+i) 0=0:=by
 have:=filter_zero h i hi
 simpa using this
theorem nzG_le(z:List Int):nzG z<=480:=by
 unfold nzG
 refine Nat.le_trans (List.length_filter_le _ _) ?_
 rw[List.length_range]
 omega
theorem filter_upd{p q:Nat->Bool}(m:Nat)(n:Nat)(hn:m<n)(hpq:∀i,i≠m->p i=q i):(((List.range n).filter p).length:Int)+(if q m then 1 else 0)=((List.range n).filter q).length+(if p m then 1 else 0):=by
 induction n with
 | zero=>omega
 | succ n ih=>
  rw[List.range_succ,List.filter_append,List.filter_append,List.length_append,List.length_append]
  by_cases e:m=n
  ·subst e
   have:(List.range m).filter p=(List.range m).filter q:=List.filter_congr (fun x hx=>hpq x (by have:=List.mem_range.1 hx;omega))
   rw[this]
   cases hp:p m <;> cases hq:q m <;> simp[hp,hq] <;> omega
  ·have:=ih (by omega)
   have h2:=hpq n (fun q=>e q.symm)
   cases hp:p n <;> rw[hp]at h2 <;> simp only[List.filter_cons,hp,<- h2] <;> simp <;> omega
theorem getD_setD{a:Nat}{v:Int}(h:o<z.length):(z.set o v).getD a 0=if a=o then v else z.getD a 0:=by
 rw[List.getD_eq_getElem?_getD,List.getD_eq_getElem?_getD]
 by_cases e:a=o
 ·subst e
  rw[if_pos rfl,List.getElem?_set_self h]
  rfl
 ·rw[if_neg e,List.getElem?_set_ne (fun q=>e q.symm)]
theorem nzG_set{v:Int}(hz:z.length=512)(hi:i<480)(hv:0<=v)(ho:0<=z.getD (32+i) 0):(nzG (z.set (32+i) v):Int)=nzG z+(min v 1-min (z.getD (32+i) 0) 1):=by
 have h:=filter_upd (p:=fun t=>(z.set (32+i) v).getD (32+t) 0 != 0) (q:=fun t=>z.getD (32+t) 0 != 0) i 480 hi (fun t ht=>by
  show (_ != _)=(_ != _)
  rw[getD_setD (by omega),if_neg (by omega)])
 rw[getD_setD (by omega),if_pos rfl]at h
 unfold nzG
 generalize (List.filter (fun t=>(z.set (32+i) v).getD (32+t) 0 != 0) (List.range 480)).length=A at *
 generalize (List.filter (fun t=>z.getD (32+t) 0 != 0) (List.range 480)).length=B at *
 generalize z.getD (32+i) 0=o at *
 by_cases e1:v=0 <;> by_cases e2:o=0 <;> simp[e1,e2]at h ⊢ <;> omega
structure PgO (r:Nat) (P:Nat->List Int) (M:Nat):Prop where
 hr:1<=r/\r<=262144
 len:∀j,j<pagesN r->(P j).length=512
 isb:∀j,j<pagesN r->Pl.isB (P j)
 pg:∀j,j<pagesN r->isPg r j (P j)=true
 sz:1<=szOf (P 0)/\szOf (P 0)<=r
 tk:∀k,k<countsN r->tknZ (P (k / 60)) (k % 60)=(nzG (P (indexN r+k)):Int)
 bey:∀k i,k<countsN r->i<480->szOf (P 0)<=((480 * k+i:Nat):Int)->(P (indexN r+k)).getD (32+i) 0=0
 unb:lfOf (P 0)=0->∀k,k<countsN r->trnZ (P (k / 60)) (k % 60)=0
 tr0:∀k,k<countsN r->trnZ (P (k / 60)) (k % 60)=0->nzG (P (indexN r+k))=0
 trM:∀k,k<countsN r->trnZ (P (k / 60)) (k % 60)<=(M:Int)
def RelO (r:Nat) (P Q:Nat->List Int):Prop:=∀k,k<countsN r->trnZ (P (k / 60)) (k % 60)=trnZ (Q (k / 60)) (k % 60)->∀i,i<480->((P (indexN r+k)).getD (32+i) 0=0 ↔ (Q (indexN r+k)).getD (32+i) 0=0)
def cnP (r:Nat) (P:Nat->List Int) (b:Nat):Int:=(P (indexN r+(b-1) / 480)).getD (32+(b-1) % 480) 0
theorem idx_lt(h:k<countsN r):k / 60<indexN r:=by unfold indexN partsN;omega
theorem grp_lt(h1:1<=b)(h2:b<=r):(b-1) / 480<countsN r:=by unfold countsN partsN;omega
theorem counts_mul(r:Nat):r<=480 * countsN r:=by unfold countsN partsN;omega
theorem PgO.ip{P:Nat->List Int}(_h:PgO r P M)(hk:k<countsN r):k / 60<pagesN r:=by
 have:=idx_lt hk
 unfold pagesN
 omega
theorem PgO.p0{P:Nat->List Int}(h:PgO r P M):0<indexN r:=by
 have h1:=grp_lt (r:=r) (b:=1) (by omega) h.hr.1
 have:=idx_lt h1
 omega
theorem PgO.mono{P:Nat->List Int}(h:PgO r P M)(hM:M<=M'):PgO r P M':={ h with trM:=fun k hk=>by have:=h.trM k hk;omega }
theorem RelO.refl(r:Nat)(P:Nat->List Int):RelO r P P:=fun _ _ _ _ _=>Iff.rfl
theorem bgn_eq(h:PgO r (fun j=>C (f+j)) M)(lf:Int):bgn C f r lf=decide (¬lfOf (C f)=0):=by
 have hp:=h.p0
 have hall:∀i,i<pagesN r->isPg r i (C (f+i))=true:=fun i hi=>h.pg i hi
 unfold bgn
 rw[if_neg (by rw[show C f=C (f+0) from rfl,hall 0 (by unfold pagesN;omega)];decide)]
 by_cases e:lfOf (C f)=0
 ·rw[if_pos e]
  simp[e]
 ·rw[if_neg e,whl_yes hall]
  simp[e]
theorem cpg_trn(h:PgO r (fun j=>C (f+j)) M)(lf:Int)(hk:k<countsN r):trnZ (cpg (bgn C f r lf) r (k / 60) (C (f+k / 60))) (k % 60)=trnZ (C (f+k / 60)) (k % 60):=by
 rw[bgn_eq h]
 unfold cpg
 have h1:=h.pg (k / 60) (h.ip hk)
 by_cases e:lfOf (C f)=0
 ·rw[if_neg (by simp[e]),trn_spgZ]
  exact (h.unb e k hk).symm
 ·rw[if_pos (by simp[e,h1])]
theorem cpg_cnt(h:PgO r (fun j=>C (f+j)) M)(lf:Int)(hk:k<countsN r)(hi:i<480):(cpg (bgn C f r lf) r (indexN r+k) (C (f+(indexN r+k)))).getD (32+i) 0=(C (f+(indexN r+k))).getD (32+i) 0:=by
 rw[bgn_eq h]
 unfold cpg
 have h1:=h.pg (indexN r+k) (by unfold pagesN;omega)
 by_cases e:lfOf (C f)=0
 ·rw[if_neg (by simp[e]),getD_spgZ (by omega)]
  exact (nzG_zero (h.tr0 k hk (h.unb e k hk)) i hi).symm
 ·rw[if_pos (by simp[e,h1])]
theorem cpg_tt(h:PgO r (fun j=>C (f+j)) M)(hj:j<pagesN r):cpg true r j (C (f+j))=C (f+j):=by
 unfold cpg
 have h1:=h.pg j hj
 rw[if_pos (by simp[h1])]
def frP (r:Nat) (P Q:Nat->List Int) (sz:Nat):List Nat:=((List.range sz).map (·+1)).filter (fun b=>cnP r P b == 0 && cnP r Q b == 0)
theorem zeros_split{p:Nat->Bool}(hmn:m<=n)(h:∀i,m<=i->i<n->p i=false):((List.range m).filter p).length=((List.range n).filter p).length:=by
 induction n with
 | zero=>rw[show m=0 from by omega]
 | succ n ih=>
  by_cases e:m=n+1
  ·rw[e]
  ·rw[ih (by omega) (fun i h1 h2=>h i h1 (by omega)),List.range_succ,List.filter_append,List.length_append]
   simp[h n (by omega) (by omega)]
theorem filter_not(p:Nat->Bool)(m:Nat):((List.range m).filter p).length+((List.range m).filter (fun i=>!p i)).length=m:=by
 induction m with
 | zero=>rfl
 | succ m ih=>
  rw[List.range_succ,List.filter_append,List.filter_append,List.length_append,List.length_append]
  cases hp:p m <;> simp[hp] <;> omega
theorem PgO.zr{P:Nat->List Int}(h:PgO r P M)(hk:k<countsN r){sz:Nat}(hs:(sz:Int)=szOf (P 0)):(bkN sz k:Int)-tknZ (P (k / 60)) (k % 60)=(((List.range (bkN sz k)).filter (fun i=>(P (indexN r+k)).getD (32+i) 0 == 0)).length:Int):=by
 rw[h.tk k hk]
 have hle:bkN sz k<=480:=by unfold bkN;omega
 have h1:=zeros_split (p:=fun i=>(P (indexN r+k)).getD (32+i) 0 != 0) hle (fun i a b=>by
  have:=h.bey k i hk b (by rw[<- hs];unfold bkN at a;omega)
  simpa using this)
 have h2:=filter_not (fun i=>(P (indexN r+k)).getD (32+i) 0 != 0) (bkN sz k)
 have e:(fun i=>!((P (indexN r+k)).getD (32+i) 0 != 0))=(fun i=>(P (indexN r+k)).getD (32+i) 0 == 0):=by
  funext i
  simp[bne]
 rw[e]at h2
 unfold nzG
 omega
theorem fr_flat(p:Nat->Bool)(sz:Nat)(m:Nat):(List.range m).flatMap (fun k=>((List.range (bkN sz k)).filter (fun i=>p (480 * k+i+1))).map (fun i=>480 * k+i+1))=((List.range (min sz (480 * m))).map (·+1)).filter p:=by
 induction m with
 | zero=>simp
 | succ m ih=>
  rw[List.range_succ,List.flatMap_append,ih]
  have e:min sz (480 * (m+1))=min sz (480 * m)+bkN sz m:=by unfold bkN;omega
  rw[e,List.range_add,List.map_append,List.filter_append]
  congr 1
  rw[List.flatMap_cons,List.flatMap_nil,List.append_nil,List.map_map,List.filter_map]
  by_cases h0:bkN sz m=0
  ·rw[h0];rfl
  ·have e2:min sz (480 * m)=480 * m:=by unfold bkN at h0;omega
   rw[e2]
   rfl
theorem flat_filter(l:List Nat)(p:Nat->Bool)(g:Nat->List α)(h:∀k∈l,p k=false->g k=[]):(l.filter p).flatMap g=l.flatMap g:=by
 induction l with
 | nil=>rfl
 | cons a l ih=>
  have ih':=ih (fun k hk=>h k (List.mem_cons_of_mem _ hk))
  cases hp:p a
  ·rw[List.filter_cons_of_neg (by simp[hp]),List.flatMap_cons,h a (List.mem_cons_self ..) hp,List.nil_append,ih']
  ·rw[List.filter_cons_of_pos hp,List.flatMap_cons,List.flatMap_cons,ih']
theorem frl_eq(hQ:PgO r (fun j=>C (f+j)) M)(lf:Int)(hk:k<countsN r)(hm:m<=480):frl (spgA C L f (indexN r+k)) (cpg (bgn C f r lf) r (indexN r+k) (C (f+(indexN r+k)))) m=(List.range m).filter (fun i=>cnP r (spgA C L f) (480 * k+i+1) == 0 && cnP r (fun j=>C (f+j)) (480 * k+i+1) == 0):=by
 unfold frl
 refine List.filter_congr (fun i hi=>?_)
 have hi':=List.mem_range.1 hi
 unfold fre cnP
 rw[cpg_cnt hQ lf hk (by omega),show (480 * k+i+1-1) / 480=k from by omega,show (480 * k+i+1-1) % 480=i from by omega]
theorem flat_fr(hP:PgO r (spgA C L f) M)(hQ:PgO r (fun j=>C (f+j)) M')(lf:Int){sz:Nat}(hs:(sz:Int)=szOf (spgA C L f 0)):(gls C L f sz ((sz-1) / 480+1)).flatMap (frB C L f r sz lf)=frP r (spgA C L f) (fun j=>C (f+j)) sz:=by
 have hsz:=hP.sz
 unfold gls
 rw[flat_filter]
 ·have hk:∀k∈List.range ((sz-1) / 480+1),frB C L f r sz lf k=((List.range (bkN sz k)).filter (fun i=>cnP r (spgA C L f) (480 * k+i+1) == 0 && cnP r (fun j=>C (f+j)) (480 * k+i+1) == 0)).map (fun i=>480 * k+i+1):=fun k hk=>by
   unfold frB
   rw[frl_eq hQ lf (by have:=List.mem_range.1 hk;have:=counts_mul r;omega) (by unfold bkN;omega)]
  have e:(List.range ((sz-1) / 480+1)).flatMap (frB C L f r sz lf)=(List.range ((sz-1) / 480+1)).flatMap (fun k=>((List.range (bkN sz k)).filter (fun i=>cnP r (spgA C L f) (480 * k+i+1) == 0 && cnP r (fun j=>C (f+j)) (480 * k+i+1) == 0)).map (fun i=>480 * k+i+1)):=by
   rw[List.flatMap_def,List.flatMap_def,List.map_congr_left hk]
  rw[e,fr_flat (fun b=>cnP r (spgA C L f) b == 0 && cnP r (fun j=>C (f+j)) b == 0) sz,show min sz (480 * ((sz-1) / 480+1))=sz from by omega]
  rfl
 ·intro k hk hz
  have hk':k<countsN r:=by have:=List.mem_range.1 hk;have:=counts_mul r;omega
  have hz':¬0<zrI C L f sz k:=of_decide_eq_false hz
  have h1:=hP.zr hk' hs
  unfold zrI at hz'
  have h2:((List.range (bkN sz k)).filter (fun i=>(spgA C L f (indexN r+k)).getD (32+i) 0 == 0)).length=0:=by omega
  unfold frB
  rw[frl_eq hQ lf hk' (by unfold bkN;omega),List.map_eq_nil_iff,List.filter_eq_nil_iff]
  intro i hi
  have h3:=filter_zero h2 i (List.mem_range.1 hi)
  have hb:i<480:=by have:=List.mem_range.1 hi;unfold bkN at this;omega
  unfold cnP
  rw[show (480 * k+i+1-1) / 480=k from by omega,show (480 * k+i+1-1) % 480=i from by omega,h3]
  simp
theorem sum_fr(hP:PgO r (spgA C L f) M)(hQ:PgO r (fun j=>C (f+j)) M')(hR:RelO r (spgA C L f) (fun j=>C (f+j)))(lf:Int){sz:Nat}(hs:(sz:Int)=szOf (spgA C L f 0)):smI C L f r sz lf (gls C L f sz ((sz-1) / 480+1))=((frP r (spgA C L f) (fun j=>C (f+j)) sz).length:Int):=by
 rw[<- flat_fr hP hQ lf hs]
 have hsz:=hP.sz
 have hk:∀k∈gls C L f sz ((sz-1) / 480+1),frN C L f r sz lf k=((frB C L f r sz lf k).length:Int):=fun k hk=>by
  have hk':k<countsN r:=by
   have:=List.mem_range.1 (List.mem_filter.1 hk).1
   have:=counts_mul r
   omega
  unfold frN frB
  rw[List.length_map]
  split
  ·rename_i h
   have h1:trnZ (spgA C L f (k / 60)) (k % 60)=trnZ (C (f+k / 60)) (k % 60):=by
    rw[<- cpg_trn hQ lf hk']
    unfold abB at h
    simpa using h
   have h2:=hR k hk' h1
   have h3:=hP.zr hk' hs
   unfold zrI
   rw[h3,frl_eq hQ lf hk' (by unfold bkN;omega)]
   congr 2
   refine List.filter_congr (fun i hi=>?_)
   have hb:i<480:=by have:=List.mem_range.1 hi;unfold bkN at this;omega
   have h4:=h2 i hb
   unfold cnP
   rw[show (480 * k+i+1-1) / 480=k from by omega,show (480 * k+i+1-1) % 480=i from by omega]
   by_cases e:(spgA C L f (indexN r+k)).getD (32+i) 0=0
   ·simp only[e,h4.1 e]
    rfl
   ·rw[beq_false_of_ne e,Bool.false_and]
  ·rfl
 unfold smI
 rw[List.map_congr_left hk]
 generalize gls C L f sz ((sz-1) / 480+1)=l
 induction l with
 | nil=>rfl
 | cons a l ih=>rw[List.map_cons,List.sum_cons,ih,List.flatMap_cons,List.length_append];omega
theorem spgA_put(C:Nat->List Int)(L:Nat->Option (List Int))(f m:Nat)(z:List Int)(j:Nat):spgA C (putL L (f+m) z) f j=if j=m then z else spgA C L f j:=by
 unfold spgA putL
 by_cases e:j=m
 ·rw[if_pos e,if_pos (by omega)]
  rfl
 ·rw[if_neg e,if_neg (by omega)]
theorem isB_setZ{v:Int}(h:Pl.isB z)(hv:0<=v/\v<=255):Pl.isB (z.set o v):=fun x hx=>by
 rcases List.mem_or_eq_of_mem_set hx with q | q
 ·exact h x q
 ·rw[q];omega
theorem isPg_set{v:Int}(h:isPg r j z=true)(ho:21<=o):isPg r j (z.set o v)=true:=by
 have h1:z.take 21=hdgZ r j:=of_decide_eq_true h
 refine decide_eq_true ?_
 rw[List.take_set_of_le ho]
 exact h1
structure TrO (r:Nat) (P T:Nat->List Int) (g tk tr:Nat):Prop where
 len:∀j,j<pagesN r->(T j).length=512
 isb:∀j,j<pagesN r->Pl.isB (T j)
 pg:∀j,j<pagesN r->isPg r j (T j)=true
 sz:szOf (T 0)=szOf (P 0)
 lf:lfOf (T 0)≠0
 ne:∀k,k<countsN r->k≠g->tknZ (T (k / 60)) (k % 60)=tknZ (P (k / 60)) (k % 60)/\trnZ (T (k / 60)) (k % 60)=trnZ (P (k / 60)) (k % 60)
 eq:tknZ (T (g / 60)) (g % 60)=(tk:Int)/\trnZ (T (g / 60)) (g % 60)=(tr:Int)
 ct:∀j,indexN r<=j->T j=P j
theorem turn_pages(h:PgO r (spgA C L f) M){g tk:Nat}(hg:g<countsN r)(htk:tk<=65535)(htr:tr<=281474976710655):TrO r (spgA C L f) (spgA C (turnL C L f r (tsz C L f) (tlf C L f) (g / 60) (g % 60) tk tr) f) g tk tr:=by
 have hi:=idx_lt hg
 have hp0:=h.p0
 have hip:=h.ip hg
 have hpl:indexN r<=pagesN r:=by unfold pagesN;omega
 have h0:0<pagesN r:=by omega
 have hszr:=h.sz
 have hr:=h.hr
 -- the index's page
 have E:∀j,spgA C (putL L (f+g / 60) (splice (spgA C L f (g / 60)) (32+8 * (g % 60)) (entZ tk tr))) f j=if j=g / 60 then splice (spgA C L f (g / 60)) (32+8 * (g % 60)) (entZ tk tr) else spgA C L f j:=fun j=>spgA_put ..
 have ol:32+8 * (g % 60)+(entZ tk tr).length<=(spgA C L f (g / 60)).length:=by rw[length_entZ,h.len _ hip];omega
 have TE:TrO r (spgA C L f) (spgA C (putL L (f+g / 60) (splice (spgA C L f (g / 60)) (32+8 * (g % 60)) (entZ tk tr))) f) g tk tr\/lfOf (spgA C L f 0)=0:=by
  by_cases hl:lfOf (spgA C L f 0)=0
  ·exact .inr hl
  ·refine .inl ⟨fun j hj=>?_,fun j hj=>?_,fun j hj=>?_,?_,?_,fun k hk hne=>?_,?_,fun j hj=>?_⟩
   ·rw[E];split
    ·rw[len_splice ol,h.len _ hip]
    ·exact h.len j hj
   ·rw[E];split
    ·exact isB_splice (h.isb _ hip) (isB_entZ _ _) _
    ·exact h.isb j hj
   ·rw[E];split
    ·rename_i e
     rw[e]
     exact isPg_splice (h.pg _ hip) (by omega)
    ·exact h.pg j hj
   ·rw[E];split
    ·rename_i e
     rw[szOf_splice ol (by omega),<- e]
    ·rfl
   ·rw[E];split
    ·rename_i e
     rw[lfOf_splice ol (by omega),<- e]
     exact hl
    ·exact hl
   ·rw[E];split
    ·rename_i e
     rw[tkn_splice ol (by rw[length_entZ];omega),trn_splice ol (by rw[length_entZ];omega),<- e]
     exact⟨rfl,rfl⟩
    ·exact⟨rfl,rfl⟩
   ·rw[E,if_pos rfl]
    exact⟨tkn_ent (h.len _ hip) (Nat.mod_lt _ (by decide)) htk,trn_ent (h.len _ hip) (Nat.mod_lt _ (by decide)) htr⟩
   ·rw[E,if_neg (by omega)]
 unfold turnL tlf
 simp only[]
 by_cases hl:lfOf (spgA C L f 0)=0
 ·rw[if_pos hl]
  -- the same,and the head
  have E2:∀j,spgA C (putL (putL L (f+g / 60) (splice (spgA C L f (g / 60)) (32+8 * (g % 60)) (entZ tk tr))) f (splice (spgA C (putL L (f+g / 60) (splice (spgA C L f (g / 60)) (32+8 * (g % 60)) (entZ tk tr))) f 0) 21 (sheadZ (tsz C L f) ((lfOf (cpg true r 0 (C f))).toNat % 1099511627775+1)))) f j=if j=0 then splice (if 0=g / 60 then splice (spgA C L f (g / 60)) (32+8 * (g % 60)) (entZ tk tr) else spgA C L f 0) 21 (sheadZ (tsz C L f) ((lfOf (cpg true r 0 (C f))).toNat % 1099511627775+1)) else if j=g / 60 then splice (spgA C L f (g / 60)) (32+8 * (g % 60)) (entZ tk tr) else spgA C L f j:=fun j=>by
   have:=spgA_put C (putL L (f+g / 60) (splice (spgA C L f (g / 60)) (32+8 * (g % 60)) (entZ tk tr))) f 0 (splice (spgA C (putL L (f+g / 60) (splice (spgA C L f (g / 60)) (32+8 * (g % 60)) (entZ tk tr))) f 0) 21 (sheadZ (tsz C L f) ((lfOf (cpg true r 0 (C f))).toNat % 1099511627775+1))) j
   rw[Nat.add_zero,E,E]at this
   rw[E]
   exact this
  generalize hlife:(lfOf (cpg true r 0 (C f))).toNat % 1099511627775+1=life at *
  have hl1:life<=1099511627775/\life≠0:=by omega
  have hsz:((tsz C L f:Nat):Int)=szOf (spgA C L f 0):=by unfold tsz;omega
  have hz:(if 0=g / 60 then splice (spgA C L f (g / 60)) (32+8 * (g % 60)) (entZ tk tr) else spgA C L f 0).length=512:=by
   split
   ·rw[len_splice ol,h.len _ hip]
   ·exact h.len _ h0
  have ol2:21+(sheadZ (tsz C L f) life).length<=(if 0=g / 60 then splice (spgA C L f (g / 60)) (32+8 * (g % 60)) (entZ tk tr) else spgA C L f 0).length:=by rw[hz,length_sheadZ];omega
  refine⟨fun j hj=>?_,fun j hj=>?_,fun j hj=>?_,?_,?_,fun k hk hne=>?_,?_,fun j hj=>?_⟩
  ·rw[E2];split
   ·rw[len_splice ol2,hz]
   ·split
    ·rw[len_splice ol,h.len _ hip]
    ·exact h.len j hj
  ·rw[E2];split
   ·refine isB_splice ?_ (isB_sheadZ _ _) _
    split
    ·exact isB_splice (h.isb _ hip) (isB_entZ _ _) _
    ·exact h.isb 0 h0
   ·split
    ·exact isB_splice (h.isb _ hip) (isB_entZ _ _) _
    ·exact h.isb j hj
  ·rw[E2];split
   ·rename_i e
    rw[e]
    refine isPg_splice ?_ (by omega)
    split
    ·rename_i e2
     rw[<- e2]
     exact isPg_splice (h.pg _ h0) (by omega)
    ·exact h.pg 0 h0
   ·split
    ·rename_i e
     rw[e]
     exact isPg_splice (h.pg _ hip) (by omega)
    ·exact h.pg j hj
  ·rw[E2,if_pos rfl,szOf_head hz (by omega),hsz]
  ·rw[E2,if_pos rfl,lfOf_head hz hl1.1]
   omega
  ·rw[E2];split
   ·rename_i e
    rw[tkn_splice ol2 (by rw[length_sheadZ];omega),trn_splice ol2 (by rw[length_sheadZ];omega),e]
    split
    ·rename_i e2
     rw[tkn_splice ol (by rw[length_entZ];omega),trn_splice ol (by rw[length_entZ];omega),<- e2]
     exact⟨rfl,rfl⟩
    ·exact⟨rfl,rfl⟩
   ·split
    ·rename_i e
     rw[tkn_splice ol (by rw[length_entZ];omega),trn_splice ol (by rw[length_entZ];omega),<- e]
     exact⟨rfl,rfl⟩
    ·exact⟨rfl,rfl⟩
  ·rw[E2];split
   ·rename_i e
    rw[tkn_splice ol2 (by rw[length_sheadZ];omega),trn_splice ol2 (by rw[length_sheadZ];omega),if_pos e.symm]
    exact⟨tkn_ent (h.len _ hip) (Nat.mod_lt _ (by decide)) htk,trn_ent (h.len _ hip) (Nat.mod_lt _ (by decide)) htr⟩
   ·rw[if_pos rfl]
    exact⟨tkn_ent (h.len _ hip) (Nat.mod_lt _ (by decide)) htk,trn_ent (h.len _ hip) (Nat.mod_lt _ (by decide)) htr⟩
  ·rw[E2,if_neg (by omega),if_neg (by omega)]
 ·rw[if_neg hl]
  exact TE.resolve_right hl
def nTk (r:Nat) (P:Nat->List Int) (b:Nat) (cnt:Int):Nat:=(tknZ (P ((b-1) / 480 / 60)) ((b-1) / 480 % 60)+(min cnt 1-min (cnP r P b) 1)).toNat
def nTr (P Q:Nat->List Int) (b:Nat):Nat:=(max (trnZ (P ((b-1) / 480 / 60)) ((b-1) / 480 % 60)) (trnZ (Q ((b-1) / 480 / 60)) ((b-1) / 480 % 60))+1).toNat
theorem cnP_bd{P:Nat->List Int}(h:PgO r P M)(h1:1<=b)(h2:b<=r):0<=cnP r P b/\cnP r P b<=255:=by
 have:=Pl.isB_getD (h.isb (indexN r+(b-1) / 480) (by have:=grp_lt h1 h2;unfold pagesN;omega)) (32+(b-1) % 480)
 unfold cnP
 rw[List.getD_eq_getElem?_getD]
 omega
theorem PgO.tks{P:Nat->List Int}(h:PgO r P M)(h1:1<=b)(h2:b<=r)(hc:0<=cnt):((nTk r P b cnt:Nat):Int)=tknZ (P ((b-1) / 480 / 60)) ((b-1) / 480 % 60)+(min cnt 1-min (cnP r P b) 1)/\nTk r P b cnt<=480:=by
 have hg:=grp_lt h1 h2
 have ht:=h.tk _ hg
 have hb:=cnP_bd h h1 h2
 have hs:=nzG_set (z:=P (indexN r+(b-1) / 480)) (i:=(b-1) % 480) (v:=cnt) (h.len _ (by unfold pagesN;omega)) (by omega) hc hb.1
 have hle:=nzG_le ((P (indexN r+(b-1) / 480)).set (32+(b-1) % 480) cnt)
 unfold nTk
 unfold cnP at *
 omega
theorem nTr_eq{P Q:Nat->List Int}(hP:PgO r P M)(hQ:PgO r Q M)(h1:1<=b)(h2:b<=r):((nTr P Q b:Nat):Int)=max (trnZ (P ((b-1) / 480 / 60)) ((b-1) / 480 % 60)) (trnZ (Q ((b-1) / 480 / 60)) ((b-1) / 480 % 60))+1/\nTr P Q b<=M+1:=by
 have hg:=grp_lt h1 h2
 have a1:=hP.trM _ hg
 have a2:=hQ.trM _ hg
 have b1:=trnZ_bd (hP.isb _ (hP.ip hg)) ((b-1) / 480 % 60)
 unfold nTr
 omega
theorem chg_ok(hP:PgO r (spgA C L f) M)(hQ:PgO r (fun j=>C (f+j)) M)(hR:RelO r (spgA C L f) (fun j=>C (f+j)))(hM:M<281474976710655)(hb:1<=b/\b<=tsz C L f)(hc:0<=cnt/\cnt<=255){tk:Nat}(htk:tk=nTk r (spgA C L f) b cnt)(htr:tr=nTr (spgA C L f) (fun j=>C (f+j)) b) :
  PgO r (spgA C (chgL C L f r b cnt tk tr) f) (M+1)/\RelO r (spgA C (chgL C L f r b cnt tk tr) f) (fun j=>C (f+j))/\szOf (spgA C (chgL C L f r b cnt tk tr) f 0)=szOf (spgA C L f 0)/\(∀b',1<=b'->cnP r (spgA C (chgL C L f r b cnt tk tr) f) b'=if b'=b then cnt else cnP r (spgA C L f) b'):=by
 have hsz:=hP.sz
 have hbr:b<=r:=by have:tsz C L f=(szOf (spgA C L f 0)).toNat:=rfl;omega
 have hbs:(b:Int)<=szOf (spgA C L f 0):=by have:tsz C L f=(szOf (spgA C L f 0)).toNat:=rfl;omega
 have hg:=grp_lt hb.1 hbr
 have hp0:=hP.p0
 have hcb:=cnP_bd hP hb.1 hbr
 obtain⟨k1,k2⟩:=hP.tks hb.1 hbr hc.1
 obtain⟨r1,r2⟩:=nTr_eq hP hQ hb.1 hbr
 rw[<- htk]at k1 k2
 rw[<- htr]at r1 r2
 have hcl:indexN r+(b-1) / 480<pagesN r:=by unfold pagesN;omega
 have hs:=nzG_set (z:=spgA C L f (indexN r+(b-1) / 480)) (i:=(b-1) % 480) (v:=cnt) (hP.len _ hcl) (by omega) hc.1 hcb.1
 -- the pages ahead of the count
 obtain⟨T,hT⟩:∃T:Nat->List Int,T=spgA C (if (min cnt 1-min (cnP r (spgA C L f) b) 1)=0 then L else turnL C L f r (tsz C L f) (tlf C L f) (((b-1) / 480) / 60) (((b-1) / 480) % 60) tk tr) f:=⟨_,rfl⟩
 have E:∀j,spgA C (chgL C L f r b cnt tk tr) f j=if j=indexN r+(b-1) / 480 then (spgA C L f (indexN r+(b-1) / 480)).set (32+(b-1) % 480) cnt else T j:=fun j=>by
  rw[hT]
  exact spgA_put ..
 have hE0:∀j,j<indexN r->spgA C (chgL C L f r b cnt tk tr) f j=T j:=fun j hj=>by rw[E,if_neg (by omega)]
 have A:(∀j,j<pagesN r->(T j).length=512/\Pl.isB (T j)/\isPg r j (T j)=true)/\szOf (T 0)=szOf (spgA C L f 0)/\(∀j,indexN r<=j->T j=spgA C L f j)/\(∀k,k<countsN r->k≠(b-1) / 480->tknZ (T (k / 60)) (k % 60)=tknZ (spgA C L f (k / 60)) (k % 60)/\trnZ (T (k / 60)) (k % 60)=trnZ (spgA C L f (k / 60)) (k % 60))/\tknZ (T ((b-1) / 480 / 60)) ((b-1) / 480 % 60)=(tk:Int)/\((min cnt 1-min (cnP r (spgA C L f) b) 1=0/\T=spgA C L f)\/(¬(min cnt 1-min (cnP r (spgA C L f) b) 1=0)/\lfOf (T 0)≠0/\trnZ (T ((b-1) / 480 / 60)) ((b-1) / 480 % 60)=(tr:Int))):=by
  by_cases hd:min cnt 1-min (cnP r (spgA C L f) b) 1=0
  ·rw[if_pos hd]at hT
   rw[hT]
   exact⟨fun j hj=>⟨hP.len j hj,hP.isb j hj,hP.pg j hj⟩,rfl,fun _ _=>rfl,fun _ _ _=>⟨rfl,rfl⟩,by rw[k1,hd,Int.add_zero],.inl ⟨hd,rfl⟩⟩
  ·rw[if_neg hd]at hT
   have q:=turn_pages hP (g:=(b-1) / 480) (tk:=tk) (tr:=tr) hg (by omega) (by omega)
   rw[<- hT]at q
   exact⟨fun j hj=>⟨q.len j hj,q.isb j hj,q.pg j hj⟩,q.sz,q.ct,q.ne,q.eq.1,.inr ⟨hd,q.lf,q.eq.2⟩⟩
 clear hT
 obtain⟨A1,A2,A3,A4,A5,A6⟩:=A
 have Ec:∀k,k<countsN r->k≠(b-1) / 480->spgA C (chgL C L f r b cnt tk tr) f (indexN r+k)=spgA C L f (indexN r+k):=fun k _ hne=>by
  rw[E,if_neg (by omega),A3 _ (by omega)]
 have Eg:spgA C (chgL C L f r b cnt tk tr) f (indexN r+(b-1) / 480)=(spgA C L f (indexN r+(b-1) / 480)).set (32+(b-1) % 480) cnt:=by rw[E,if_pos rfl]
 generalize spgA C (chgL C L f r b cnt tk tr) f=P' at *
 have hgD:∀i,(P' (indexN r+(b-1) / 480)).getD (32+i) 0=if i=(b-1) % 480 then cnt else (spgA C L f (indexN r+(b-1) / 480)).getD (32+i) 0:=fun i=>by
  rw[Eg,getD_setD (by rw[hP.len _ hcl];omega)]
  by_cases e:i=(b-1) % 480
  ·rw[if_pos e,if_pos (by omega)]
  ·rw[if_neg e,if_neg (by omega)]
 have htkd:∀k,k<countsN r->P' (k / 60)=T (k / 60):=fun k hk=>hE0 _ (idx_lt hk)
 refine⟨⟨hP.hr,fun j hj=>?_,fun j hj=>?_,fun j hj=>?_,?_,fun k hk=>?_,fun k i hk hi hq=>?_,fun hl k hk=>?_,fun k hk ht=>?_,fun k hk=>?_⟩,fun k hk he i hi=>?_,?_,fun b' hb'=>?_⟩
 ·rw[E];split
  ·rw[List.length_set,hP.len _ hcl]
  ·exact (A1 j hj).1
 ·rw[E];split
  ·exact isB_setZ (hP.isb _ hcl) hc
  ·exact (A1 j hj).2.1
 ·rw[E];split
  ·rename_i e
   rw[e]
   exact isPg_set (hP.pg _ hcl) (by omega)
  ·exact (A1 j hj).2.2
 ·rw[hE0 0 hp0,A2]
  exact hsz
 ·rw[htkd k hk]
  by_cases e:k=(b-1) / 480
  ·rw[e,A5,Eg,k1,hP.tk _ hg,hs]
   rfl
  ·rw[(A4 k hk e).1,Ec k hk e]
   exact hP.tk k hk
 ·rw[hE0 0 hp0,A2]at hq
  by_cases e:k=(b-1) / 480
  ·subst e
   rw[hgD,if_neg (by omega)]
   exact hP.bey _ i hg hi hq
  ·rw[Ec k hk e]
   exact hP.bey k i hk hi hq
 ·rw[hE0 0 hp0]at hl
  rw[htkd k hk]
  rcases A6 with ⟨_,q⟩ | ⟨_,q,_⟩
  ·rw[q]at hl ⊢
   exact hP.unb hl k hk
  ·exact absurd hl q
 ·rw[htkd k hk]at ht
  by_cases e:k=(b-1) / 480
  ·subst e
   rcases A6 with ⟨q0,q⟩ | ⟨_,_,q⟩
   ·rw[q]at ht
    have h1:=hP.tr0 _ hg ht
    rw[Eg]
    unfold cnP at q0
    omega
   ·have:=trnZ_bd (hP.isb _ (hP.ip hg)) ((b-1) / 480 % 60)
    omega
  ·rw[(A4 k hk e).2]at ht
   rw[Ec k hk e]
   exact hP.tr0 k hk ht
 ·rw[htkd k hk]
  by_cases e:k=(b-1) / 480
  ·subst e
   rcases A6 with ⟨_,q⟩ | ⟨_,_,q⟩
   ·rw[q]
    have:=hP.trM _ hg
    omega
   ·rw[q]
    omega
  ·rw[(A4 k hk e).2]
   have:=hP.trM k hk
   omega
 ·rw[htkd k hk]at he
  by_cases e:k=(b-1) / 480
  ·subst e
   rcases A6 with ⟨q0,q⟩ | ⟨_,_,q⟩
   ·rw[q]at he
    have h1:=hR _ hg he i hi
    rw[hgD]
    split
    ·rename_i e
     rw[<- h1,e]
     unfold cnP at q0 hcb
     constructor <;> intro <;> omega
    ·exact h1
   ·have he':trnZ (T ((b-1) / 480 / 60)) ((b-1) / 480 % 60)=trnZ (C (f+(b-1) / 480 / 60)) ((b-1) / 480 % 60):=he
    omega
  ·rw[(A4 k hk e).2]at he
   rw[Ec k hk e]
   exact hR k hk he i hi
 ·rw[hE0 0 hp0,A2]
 ·unfold cnP
  by_cases e:(b'-1) / 480=(b-1) / 480
  ·rw[e,hgD]
   by_cases e2:b'=b
   ·rw[e2,if_pos rfl,if_pos rfl]
   ·rw[if_neg e2,if_neg (by omega)]
  ·rw[if_neg (fun q=>e (by rw[q]))]
   rw[E,if_neg (by omega),A3 _ (by omega)]
theorem PgO.congr{P P':Nat->List Int}(h:PgO r P M)(he:∀j,j<pagesN r->P' j=P j):PgO r P' M:=by
 have hp0:=h.p0
 have hc:∀k,k<countsN r->indexN r+k<pagesN r:=fun k hk=>by unfold pagesN;omega
 have hz:0<pagesN r:=by unfold pagesN;omega
 refine⟨h.hr,fun j hj=>?_,fun j hj=>?_,fun j hj=>?_,?_,fun k hk=>?_,fun k i hk hi hq=>?_,fun hl k hk=>?_,fun k hk ht=>?_,fun k hk=>?_⟩
 ·rw[he j hj];exact h.len j hj
 ·rw[he j hj];exact h.isb j hj
 ·rw[he j hj];exact h.pg j hj
 ·rw[he 0 hz];exact h.sz
 ·rw[he _ (h.ip hk),he _ (hc k hk)];exact h.tk k hk
 ·rw[he 0 hz]at hq
  rw[he _ (hc k hk)]
  exact h.bey k i hk hi hq
 ·rw[he 0 hz]at hl
  rw[he _ (h.ip hk)]
  exact h.unb hl k hk
 ·rw[he _ (h.ip hk)]at ht
  rw[he _ (hc k hk)]
  exact h.tr0 k hk ht
 ·rw[he _ (h.ip hk)];exact h.trM k hk
theorem RelO.congr{P P' Q Q':Nat->List Int}(h:RelO r P Q)(he:∀j,j<pagesN r->P' j=P j)(hq:∀j,j<pagesN r->Q' j=Q j):RelO r P' Q':=fun k hk ht i hi=>by
 have hc:indexN r+k<pagesN r:=by unfold pagesN;omega
 have hi':k / 60<pagesN r:=by have:=idx_lt hk;unfold pagesN;omega
 rw[he _ hi',hq _ hi']at ht
 rw[he _ hc,hq _ hc]
 exact h k hk ht i hi
theorem cnP_congr{P P':Nat->List Int}(he:∀j,j<pagesN r->P' j=P j)(h1:1<=b)(h2:b<=r):cnP r P' b=cnP r P b:=by
 unfold cnP
 rw[he _ (by have:=grp_lt h1 h2;unfold pagesN;omega)]
theorem len_lpg(r sz lf q:Nat):(lpg r sz lf q).length=512:=by
 unfold lpg
 split
 ·rw[len_splice (by rw[length_spgZ,length_sheadZ];omega),length_spgZ]
 ·exact length_spgZ r q
theorem getD_lpg{sz lf a:Nat}(h:32<=a):(lpg r sz lf q).getD a 0=0:=by
 unfold lpg
 split
 ·rw[getD_splice (by rw[length_spgZ,length_sheadZ];omega) (.inr (by rw[length_sheadZ];omega)),getD_spgZ (by omega)]
 ·exact getD_spgZ (by omega)
theorem isB_lpg(r sz lf q:Nat):Pl.isB (lpg r sz lf q):=by
 unfold lpg
 split
 ·exact isB_splice (isB_spgZ r 0) (isB_sheadZ _ _) _
 ·exact isB_spgZ r q
theorem nzG_lpg(r sz lf q:Nat):nzG (lpg r sz lf q)=0:=by
 unfold nzG
 rw[List.length_eq_zero_iff,List.filter_eq_nil_iff]
 intro i _
 rw[getD_lpg (by omega)]
 decide
theorem PgO.lpg{sz:Nat}(hr:1<=r/\r<=262144)(hs:1<=sz/\sz<=r)(M:Nat):PgO r (fun j=>lpg r sz 0 j) M:=by
 have e1:szOf (Go.Proofs.YtlefjidbpjkhlaaGreat.lpg r sz 0 0)=(sz:Int):=szOf_lpg (by omega)
 refine⟨hr,fun j _=>len_lpg r sz 0 j,fun j _=>isB_lpg r sz 0 j,fun j _=>isPg_lpg r sz 0 j,?_,fun k _=>?_,fun k i _ _ _=>getD_lpg (by omega),fun _ k _=>?_,fun k _ _=>nzG_lpg _ _ _ _,fun k _=>?_⟩
 ·show 1<=szOf (Go.Proofs.YtlefjidbpjkhlaaGreat.lpg r sz 0 0)/\szOf (Go.Proofs.YtlefjidbpjkhlaaGreat.lpg r sz 0 0)<=r
  rw[e1]
  omega
 ·show tknZ _ _=_
  rw[nzG_lpg]
  exact win_zero (fun t h=>getD_lpg (by omega))
 ·exact win_zero (fun t h=>getD_lpg (by omega))
 ·show trnZ _ _<=_
  unfold trnZ
  rw[win_zero (fun t h=>getD_lpg (by omega))]
  omega
theorem cnP_lpg(r sz b:Nat):cnP r (fun j=>lpg r sz 0 j) b=0:=getD_lpg (by omega)
theorem chgL_else{tk:Nat}(h1:1<=b)(h2:b<=r)(hy:y<f\/f+pagesN r<=y):chgL C L f r b cnt tk tr y=L y:=by
 have hg:=grp_lt h1 h2
 have hi:=idx_lt hg
 have hp:pagesN r=indexN r+countsN r:=rfl
 unfold chgL putL
 rw[if_neg (by omega)]
 split
 ·rfl
 ·unfold turnL putL
  split
  ·show (if y=f then _ else if y=f+(b-1) / 480 / 60 then _ else L y)=L y
   rw[if_neg (by omega),if_neg (by omega)]
  ·show (if y=f+(b-1) / 480 / 60 then _ else L y)=L y
   rw[if_neg (by omega)]
def upd (c:Nat->Int) (b:Nat) (v:Int):Nat->Int:=fun x=>if x=b then v else c x
structure Tst (C:Nat->List Int) (L:Nat->Option (List Int)) (f r nb M sz:Nat) (cs ct:Nat->Int):Prop where
 hP:PgO r (spgA C L f) M
 hQ:PgO r (fun j=>C (f+j)) M
 hR:RelO r (spgA C L f) (fun j=>C (f+j))
 f1:64<=f
 f2:f+pagesN r<=nb
 sz:szOf (spgA C L f 0)=(sz:Int)
 cs:∀b,1<=b->b<=r->cnP r (spgA C L f) b=cs b
 ct:∀b,1<=b->b<=r->cnP r (fun j=>C (f+j)) b=ct b
def frA (cs ct:Nat->Int) (sz:Nat):List Nat:=((List.range sz).map (·+1)).filter (fun b=>cs b == 0 && ct b == 0)
theorem Tst.sz1{nb sz:Nat}{cs ct:Nat->Int}(h:Tst C L f r nb M sz cs ct):1<=sz/\sz<=r/\tsz C L f=sz:=by
 have h1:=h.hP.sz
 have h2:=h.sz
 unfold tsz
 omega
theorem Tst.tbs{nb sz:Nat}{cs ct:Nat->Int}(h:Tst C L f r nb M sz cs ct):TbS C L f r nb:=⟨h.hP.hr,h.f1,h.f2,h.hP.pg,h.hP.sz⟩
theorem Tst.fr{nb sz:Nat}{cs ct:Nat->Int}(h:Tst C L f r nb M sz cs ct):frP r (spgA C L f) (fun j=>C (f+j)) sz=frA cs ct sz:=by
 have h1:=h.sz1
 unfold frP frA
 refine List.filter_congr (fun b hb=>?_)
 obtain⟨i,hi,rfl⟩:=List.mem_map.1 hb
 have:=List.mem_range.1 hi
 rw[h.cs _ (by omega) (by omega),h.ct _ (by omega) (by omega)]
theorem Tst.flat{nb sz:Nat}{cs ct:Nat->Int}(h:Tst C L f r nb M sz cs ct)(lf:Int):(gls C L f (tsz C L f) ((tsz C L f-1) / 480+1)).flatMap (frB C L f r (tsz C L f) lf)=frA cs ct sz:=by
 rw[h.sz1.2.2,<- h.fr]
 exact flat_fr h.hP h.hQ lf h.sz.symm
theorem Tst.sum{nb sz:Nat}{cs ct:Nat->Int}(h:Tst C L f r nb M sz cs ct)(lf:Int):smI C L f r (tsz C L f) lf (gls C L f (tsz C L f) ((tsz C L f-1) / 480+1))=((frA cs ct sz).length:Int):=by
 rw[h.sz1.2.2,<- h.fr]
 exact sum_fr h.hP h.hQ h.hR lf h.sz.symm
theorem Tst.mono{nb sz:Nat}{cs ct:Nat->Int}(h:Tst C L f r nb M sz cs ct)(hM:M<=M'):Tst C L f r nb M' sz cs ct:={ h with hP:=h.hP.mono hM,hQ:=h.hQ.mono hM }
theorem Tst.chg{nb sz:Nat}{cs ct:Nat->Int}(h:Tst C L f r nb M sz cs ct)(hM:M<281474976710655)(hb:1<=b/\b<=sz)(hc:0<=cnt/\cnt<=255):Tst C (chgL C L f r b cnt (nTk r (spgA C L f) b cnt) (nTr (spgA C L f) (fun j=>C (f+j)) b)) f r nb (M+1) sz (upd cs b cnt) ct:=by
 have h1:=h.sz1
 obtain⟨a1,a2,a3,a4⟩:=chg_ok h.hP h.hQ h.hR hM (b:=b) (by omega) hc rfl rfl
 refine⟨a1,h.hQ.mono (by omega),a2,h.f1,h.f2,a3.trans h.sz,fun b' q1 q2=>?_,h.ct⟩
 rw[a4 b' q1]
 unfold upd
 split
 ·rfl
 ·exact h.cs b' q1 q2
theorem Tst.ents{nb sz:Nat}{cs ct:Nat->Int}(h:Tst C L f r nb M sz cs ct)(hM:M<281474976710655)(hb:1<=b/\b<=sz)(hc:0<=cnt):((nTk r (spgA C L f) b cnt:Nat):Int)=tknZ (spgA C L f ((b-1) / 480 / 60)) ((b-1) / 480 % 60)+(min cnt 1-min (cs b) 1)/\((nTr (spgA C L f) (fun j=>C (f+j)) b:Nat):Int)=max (trnZ (spgA C L f ((b-1) / 480 / 60)) ((b-1) / 480 % 60)) (trnZ (cpg true r ((b-1) / 480 / 60) (C (f+(b-1) / 480 / 60))) ((b-1) / 480 % 60))+1/\nTk r (spgA C L f) b cnt<=65535/\nTr (spgA C L f) (fun j=>C (f+j)) b<=281474976710655:=by
 have h1:=h.sz1
 obtain⟨k1,k2⟩:=h.hP.tks hb.1 (by omega) hc
 obtain⟨r1,r2⟩:=nTr_eq h.hP h.hQ hb.1 (by omega)
 rw[h.cs b hb.1 (by omega)]at k1
 rw[cpg_tt h.hQ (h.hQ.ip (grp_lt hb.1 (by omega)))]
 exact⟨k1,r1,by omega,by omega⟩
theorem Tst.cn{nb sz:Nat}{cs ct:Nat->Int}(h:Tst C L f r nb M sz cs ct)(hb:1<=b/\b<=sz):(spgA C L f (indexN r+((b-1) / 480))).getD (32+((b-1) % 480)) 0=cs b/\0<=cs b/\cs b<=255/\Pl.isB (spgA C L f (indexN r+((b-1) / 480))):=by
 have h1:=h.sz1
 have h2:=h.cs b hb.1 (by omega)
 have h3:=cnP_bd h.hP hb.1 (by omega:b<=r)
 rw[h2]at h3
 exact⟨h2,h3.1,h3.2,h.hP.isb _ (by have:=grp_lt hb.1 (by omega:b<=r);unfold pagesN;omega)⟩
theorem Tst.fresh{nb sz:Nat}{cs ct:Nat->Int}(h:Tst C L f r nb M sz cs ct){C':Nat->List Int}(hC:∀y,f<=y->y<f+pagesN r->C' y=(L y).getD (C y)):Tst C' (fun _=>none) f r nb M sz cs cs:=by
 have he:∀j,j<pagesN r->C' (f+j)=spgA C L f j:=fun j hj=>hC _ (by omega) (by omega)
 have hs:∀j,spgA C' (fun _=>none) f j=C' (f+j):=fun j=>rfl
 have hz:0<pagesN r:=by have:=h.hP.p0;unfold pagesN;omega
 have p1:PgO r (fun j=>C' (f+j)) M:=h.hP.congr he
 exact⟨p1,p1,RelO.refl _ _,h.f1,h.f2,by rw[hs,he 0 hz];exact h.sz,fun b q1 q2=>by rw[show spgA C' (fun _=>none) f=fun j=>C' (f+j) from rfl,cnP_congr he q1 q2];exact h.cs b q1 q2,fun b q1 q2=>by rw[cnP_congr he q1 q2];exact h.cs b q1 q2⟩
theorem Tst.aside{nb sz:Nat}{cs ct:Nat->Int}(h:Tst C L f r nb M sz cs ct){L':Nat->Option (List Int)}(hL:∀y,f<=y->y<f+pagesN r->L' y=L y):Tst C L' f r nb M sz cs ct:=by
 have he:∀j,j<pagesN r->spgA C L' f j=spgA C L f j:=fun j hj=>by unfold spgA;rw[hL _ (by omega) (by omega)]
 have hz:0<pagesN r:=by have:=h.hP.p0;unfold pagesN;omega
 exact⟨h.hP.congr he,h.hQ,h.hR.congr he (fun _ _=>rfl),h.f1,h.f2,by rw[he 0 hz];exact h.sz,fun b q1 q2=>by rw[cnP_congr he q1 q2];exact h.cs b q1 q2,h.ct⟩
theorem Tst.laid{nb sz:Nat}(hr:1<=r/\r<=262144)(hs:1<=sz/\sz<=r)(f1:64<=f)(f2:f+pagesN r<=nb)(hC:∀j,j<pagesN r->C (f+j)=lpg r sz 0 j)(hL:∀y,f<=y->y<f+pagesN r->L y=none):Tst C L f r nb 0 sz (fun _=>0) (fun _=>0):=by
 have p1:PgO r (fun j=>C (f+j)) 0:=(PgO.lpg hr hs 0).congr hC
 have hz:0<pagesN r:=by have:=p1.p0;unfold pagesN;omega
 have he:∀j,j<pagesN r->spgA C L f j=C (f+j):=fun j hj=>by unfold spgA;rw[hL _ (by omega) (by omega)];rfl
 refine⟨p1.congr he,p1,(RelO.refl _ _).congr he (fun _ _=>rfl),f1,f2,?_,fun b q1 q2=>?_,fun b q1 q2=>?_⟩
 ·rw[he 0 hz,hC 0 hz]
  exact szOf_lpg (by omega)
 ·rw[cnP_congr he q1 q2,cnP_congr hC q1 q2,cnP_lpg]
 ·rw[cnP_congr hC q1 q2,cnP_lpg]
end Go.Proofs.YtlefjidbpjkhlaaGreat
