import Derived.Test.YthfojpcibnfmgaaGreatH35
import Derived.Test.YthfojpcibnfmgaaGreatH12
import Derived.Test.YthfojpcibnfmgaaGreatH32
set_option maxRecDepth 100000
set_option maxHeartbeats 16000000
namespace Go.Proofs.YthfojpcibnfmgaaGreat
variable {w:World}
variable {bl fr i k nb p pc rb y:Nat}
variable {pa:Option Addr}
variable {mv:Value}
variable {H α:Type}
variable {a:Nat->Option Wr}
variable {ms:List Mr}
variable {ks:List Nat}
variable {Ts:List Tn}
variable {Fs:List ByteArray}
variable {Ds:List (List Pu)}
open Go.RowKit
def seenU (ps:List Pu) (i:Nat):Bool:=match ps[i]? with
 | some q=>(ps.take i).any (fun r=>r.1 == q.1)
 | none=>false
def cntU (ps:List Pu):Nat->Nat
 | 0=>0
 | i+1=>cntU ps i+if seenU ps i then 0 else 1
theorem cntU_le(ps:List Pu)(i:Nat):cntU ps i<=i:=by
 induction i with
 | zero=>exact Nat.le_refl _
 | succ i ih=>simp only[cntU];split <;> omega
theorem rblocks_any{g:Nat}{over:Bool}{ps:List Pu}(h:Rt5 w g rb (.slice pa ps.length pc) mv over)(hP:PutsL w pa ps)(hpl:ps.length<=1073741823) :
  Calls Tryz.prog 53 #[.pointer (some ⟨g,0,none⟩)] w fun e w'=>e=.returned (.int .i64 (cntU ps ps.length:Nat))/\Below w.heap.size w w':=by
 have c1:=h.cell 1
 simp at c1
 obtain⟨np,hnp⟩:∃np,np=ps.length:=⟨_,rfl⟩
 rw[<- hnp]at c1 hpl ⊢
 have HN:=hid hnp
 have HP:=hid hP
 have HC:=hid (cntU_le ps)
 have hgl:=h.lt
 have HCl:Hid (∀w2,Below w.heap.size w w2->w2.cell? ⟨g,1,none⟩=some (.slice pa np pc)):=fun w2 b=>cell_below b c1
 have HPl:Hid (∀w2,Below w.heap.size w w2->PutsL w2 pa ps):=fun w2 b=>hP.below b
 clear h hP hnp c1 HP hgl
 go_enter Tryz.func53,Tryz.ntmps53
 go_wp2_with fail
 go_loopw [3,4] (fun kv iv wr=>∃i:Nat,i<=np/\iv=.int .i64 (i:Int)/\kv=.int .i64 (cntU ps i:Nat)/\Below w.heap.size w wr) (fun _ iv _=>np-(intOf iv).toNat)
 case atStart=>exact⟨0,Nat.zero_le _,rfl,rfl,Below.refl _ _⟩
 case round=>
  obtain⟨i,hin,rfl,rfl,hwr⟩:=hrel
  have c1:=HCl.out wr hwr
  have hci:=HC.out i
  by_cases hi:i<np
  ·have hi':(i:Int)<(np:Int):=by omega
   obtain⟨q,hq⟩:∃q,ps[i]?=some q:=⟨_,List.getElem?_eq_getElem (by have:=HN.out;omega)⟩
   obtain⟨pg,rfl,hq1,hq2⟩:=HPl.out wr hwr i q hq
   clear hq2
   have HSe:=hid (show seenU ps i=(ps.take i).any (fun r=>r.1 == q.1) by unfold seenU;rw[hq])
   have HPw:=hid (HPl.out wr hwr)
   have HB:=hid hwr
   obtain⟨ww,hww⟩:∃ww,ww=wr:=⟨_,rfl⟩
   rw[<- hww]at c1 hq1 HPw HB ⊢
   clear hwr hq hww wr
   go_wp2_with fail
   go_loopw [5,6] (fun sv jv wx=>∃j:Nat,j<=i/\jv=.int .i64 (j:Int)/\sv=.bool ((ps.take j).any (fun r=>r.1 == q.1))/\Below ww.heap.size ww wx) (fun _ jv _=>i-(intOf jv).toNat)
   case atStart=>exact⟨0,Nat.zero_le _,rfl,rfl,Below.refl _ _⟩
   case round=>
    obtain⟨j,hji,rfl,rfl,hwx⟩:=hrel
    obtain⟨wy,hwy⟩:∃wy,wy=wr:=⟨_,rfl⟩
    rw[<- hwy]at hwx ⊢
    clear hwy wr
    have d1:=cell_below hwx c1
    have dq:=cell_below hwx hq1
    by_cases hj:j<i
    ·have hj':(j:Int)<(i:Int):=by omega
     have hjn:(j:Int)<(np:Int):=by omega
     obtain⟨r,hr⟩:∃r,ps[j]?=some r:=⟨_,List.getElem?_eq_getElem (by have:=HN.out;omega)⟩
     obtain⟨pg',e9,hr1,hr2⟩:=HPw.out j r hr
     clear hr2
     obtain rfl:pg=pg':=by injection e9 with e9;injection e9
     have dr:=cell_below hwx hr1
     have HT:=hid (show (ps.take (j+1)).any (fun r=>r.1 == q.1)=((ps.take j).any (fun r=>r.1 == q.1) || (r.1 == q.1)) by rw[List.take_add_one,hr];simp)
     have HX:=hid hwx
     clear hr hr1 hwx e9
     generalize hsn:(ps.take j).any (fun r=>r.1 == q.1)=sn at *
     clear hsn
     cases sn
     ·go_upto_region 9 with fail
      refine wp_region_held_drew (S:=fun w'=>w'.cell? ⟨g,1,none⟩=some (.slice (some ⟨pg,0,none⟩) np pc)/\w'.cell? ⟨pg,j * 2,none⟩=some (.int .i64 r.1)/\w'.cell? ⟨pg,i * 2,none⟩=some (.int .i64 q.1)) (by kernel_rfl) ⟨d1,dr,dq⟩ (fun hSS=>?_)
      refine tk 0 (some 21) (.move (.tmp 5)) 4 none hSS ?_
      refine tk 1 (some 22) (.move (.tmp 21)) 4 none hSS ?_
      refine tk 2 (some 23) (.move (.tmp 0)) 65 (some (1,false)) hSS ?_
      refine tk 3 (some 24) (.nilCheck (.tmp 23)) 0 (some (1,false)) hSS ?_
      try simp only[Act.put,zA,zB,zC]
      refine tk 4 (some 25) (.fieldAddr 115 (.tmp 24) 1) 0 (some (1,false)) hSS ?_
      refine tk 5 (some 26) (.load 60 (.tmp 25)) 60 (some (1,false)) hSS ?_
      refine tk 6 (some 27) (.move (.tmp 6)) 3 (some (1,false)) hSS ?_
      refine tk 7 (some 28) (.indexAddr 60 (.tmp 26) (.tmp 27)) 0 (some (1,false)) hSS ?_
      try simp only[Act.put,zA,zB,zC]
      refine tk 8 (some 29) (.fieldAddr 150 (.tmp 28) 0) 0 (some (1,false)) hSS ?_
      refine tk 9 (some 30) (.load 3 (.tmp 29)) 3 (some (1,false)) hSS ?_
      refine tk 10 (some 31) (.move (.tmp 0)) 65 (some (1,false)) hSS ?_
      refine tk 11 (some 32) (.nilCheck (.tmp 31)) 0 (some (1,false)) hSS ?_
      try simp only[Act.put,zA,zB,zC]
      refine tk 12 (some 33) (.fieldAddr 115 (.tmp 32) 1) 0 (some (1,false)) hSS ?_
      refine tk 13 (some 34) (.load 60 (.tmp 33)) 60 (some (1,false)) hSS ?_
      refine tk 14 (some 35) (.move (.tmp 4)) 3 (some (1,false)) hSS ?_
      refine tk 15 (some 36) (.indexAddr 60 (.tmp 34) (.tmp 35)) 0 (some (1,false)) hSS ?_
      try simp only[Act.put,zA,zB,zC]
      refine tk 16 (some 37) (.fieldAddr 150 (.tmp 36) 0) 0 (some (1,false)) hSS ?_
      refine tk 17 (some 38) (.load 3 (.tmp 37)) 3 (some (1,false)) hSS ?_
      refine tk 18 (some 39) (.binOp .eql 3 (.tmp 30) (.tmp 38) 3) 4 (some (1,false)) hSS ?_
      refine tk 19 (some 40) (.pick (.tmp 22) (.const (.bool true)) (.tmp 39)) 4 none hSS ?_
      try simp only[Act.put,zA,zB,zC]
      refine tk 20 (some 5) (.assign (.tmp 40)) 4 none hSS ?_
      try simp only[Act.put,zA,zB,zC]
      refine wpAnyH_done (by kernel_rfl) ?_ _
      clear hSS
      go_wp2_with fail
      go_roundw
      case rel=>exact⟨j+1,by omega,by simp,by rw[HT.out];rfl,HX.out.drew⟩
      case measure=>simp[intOf];omega
     ·go_upto_region 9 with fail
      refine wp_region_held_drew (S:=fun w'=>w'.cell? ⟨g,1,none⟩=some (.slice (some ⟨pg,0,none⟩) np pc)/\w'.cell? ⟨pg,j * 2,none⟩=some (.int .i64 r.1)/\w'.cell? ⟨pg,i * 2,none⟩=some (.int .i64 q.1)) (by kernel_rfl) ⟨d1,dr,dq⟩ (fun hSS=>?_)
      refine tk 0 (some 21) (.move (.tmp 5)) 4 none hSS ?_
      refine tk 1 (some 22) (.move (.tmp 21)) 4 none hSS ?_
      refine sk 2 (some 23) (.move (.tmp 0)) 65 (some (1,false)) hSS ?_
      refine sk 3 (some 24) (.nilCheck (.tmp 23)) 0 (some (1,false)) hSS ?_
      try simp only[Act.put,zA,zB,zC]
      refine sk 4 (some 25) (.fieldAddr 115 (.tmp 24) 1) 0 (some (1,false)) hSS ?_
      refine sk 5 (some 26) (.load 60 (.tmp 25)) 60 (some (1,false)) hSS ?_
      refine sk 6 (some 27) (.move (.tmp 6)) 3 (some (1,false)) hSS ?_
      refine sk 7 (some 28) (.indexAddr 60 (.tmp 26) (.tmp 27)) 0 (some (1,false)) hSS ?_
      try simp only[Act.put,zA,zB,zC]
      refine sk 8 (some 29) (.fieldAddr 150 (.tmp 28) 0) 0 (some (1,false)) hSS ?_
      refine sk 9 (some 30) (.load 3 (.tmp 29)) 3 (some (1,false)) hSS ?_
      refine sk 10 (some 31) (.move (.tmp 0)) 65 (some (1,false)) hSS ?_
      refine sk 11 (some 32) (.nilCheck (.tmp 31)) 0 (some (1,false)) hSS ?_
      try simp only[Act.put,zA,zB,zC]
      refine sk 12 (some 33) (.fieldAddr 115 (.tmp 32) 1) 0 (some (1,false)) hSS ?_
      refine sk 13 (some 34) (.load 60 (.tmp 33)) 60 (some (1,false)) hSS ?_
      refine sk 14 (some 35) (.move (.tmp 4)) 3 (some (1,false)) hSS ?_
      refine sk 15 (some 36) (.indexAddr 60 (.tmp 34) (.tmp 35)) 0 (some (1,false)) hSS ?_
      try simp only[Act.put,zA,zB,zC]
      refine sk 16 (some 37) (.fieldAddr 150 (.tmp 36) 0) 0 (some (1,false)) hSS ?_
      refine sk 17 (some 38) (.load 3 (.tmp 37)) 3 (some (1,false)) hSS ?_
      refine sk 18 (some 39) (.binOp .eql 3 (.tmp 30) (.tmp 38) 3) 4 (some (1,false)) hSS ?_
      refine tk 19 (some 40) (.pick (.tmp 22) (.const (.bool true)) (.tmp 39)) 4 none hSS ?_
      try simp only[Act.put,zA,zB,zC]
      refine tk 20 (some 5) (.assign (.tmp 40)) 4 none hSS ?_
      try simp only[Act.put,zA,zB,zC]
      refine wpAnyH_done (by kernel_rfl) ?_ _
      clear hSS
      go_wp2_with fail
      go_roundw
      case rel=>exact⟨j+1,by omega,by simp,by rw[HT.out];rfl,HX.out.drew⟩
      case measure=>simp[intOf];omega
    ·have hj':¬(j:Int)<(i:Int):=by omega
     obtain rfl:j=i:=by omega
     have HX:=hid hwx
     have hse:=HSe.out
     have hcs:cntU ps (j+1)=cntU ps j+if seenU ps j then 0 else 1:=rfl
     rw[hse]at hcs
     have HCs:=hid hcs
     clear hwx hse hcs
     generalize (ps.take j).any (fun r=>r.1 == q.1)=sn at *
     cases sn
     ·go_wp2_with fail
      go_roundw
      case rel=>exact⟨j+1,by omega,by simp,by rw[HCs.out];simp,HB.out.trans (HX.out.mono HB.out.size)⟩
      case measure=>simp[intOf];omega
     ·go_wp2_with fail
      go_roundw
      case rel=>exact⟨j+1,by omega,by simp,by rw[HCs.out];simp,HB.out.trans (HX.out.mono HB.out.size)⟩
      case measure=>simp[intOf];omega
  ·have hi':¬(i:Int)<(np:Int):=by omega
   obtain rfl:i=np:=by omega
   have HX:=hid hwr
   clear hwr
   go_wp2
   go_ret
   exact⟨rfl,HX.out⟩
open Go.RowKit Go.Deep
def lastU (y:Int) (ps:List Pu):Option ByteArray:=ps.foldl (fun o q=>if q.1=y then some q.2 else o) none
theorem lastU_snoc(y:Int)(ps:List Pu)(q:Pu):lastU y (ps++[q])=if q.1=y then some q.2 else lastU y ps:=by simp[lastU]
theorem snocInd{C:List α->Prop}(h0:C [])(h1:∀l x,C l->C (l++[x])):∀l,C l:=fun l=>by
 have:∀n,∀l:List α,l.length=n->C l:=by
  intro n
  induction n with
  | zero=>intro l hl;rw[List.length_eq_zero_iff.1 hl];exact h0
  | succ n ih=>
   intro l hl
   have hne:l≠[]:=by intro q;rw[q]at hl;simp at hl
   rw[<- List.dropLast_concat_getLast hne]
   exact h1 _ _ (ih _ (by simp[hl]))
 exact this _ l rfl
theorem layU_last(y:Int)(b:ByteArray)(ps:List Pu):layU y b ps=(lastU y ps).getD b:=by
 induction ps using snocInd with
 | h0=>rfl
 | h1 l x ih=>
  rw[layU_snoc,lastU_snoc,ih]
  split <;> rfl
theorem lastU_some(y:Int)(ps:List Pu):(lastU y ps).isSome=ps.any (fun q=>q.1 == y):=by
 induction ps using snocInd with
 | h0=>rfl
 | h1 l x ih=>
  rw[lastU_snoc,List.any_append]
  by_cases h:x.1=y
  ·simp[h]
  ·simp[h,ih]
structure Lku (nb fr bl:Nat) (A:Nat->Option (List Int)) (ps:List Pu):Prop where
 home:∀q∈ps,∃y:Nat,q.1=(y:Int)/\y<nb/\homeC nb fr bl (y:Int)=0
 last:∀y:Nat,lastU (y:Int) ps=(A y).map strOfNums
theorem Lku.nil(nb fr bl:Nat):Lku nb fr bl (fun _=>none) []:=⟨by simp,fun _=>rfl⟩
theorem Lku.put{A:Nat->Option (List Int)}{ps:List Pu}(h:Lku nb fr bl A ps)(hy:y<nb)(hh:homeC nb fr bl (y:Int)=0)(zs:List Int):Lku nb fr bl (putL A y zs) (ps++[((y:Int),strOfNums zs)]) where
 home:=fun q hq=>by
  rcases List.mem_append.1 hq with hq | hq
  ·exact h.home q hq
  ·obtain rfl:q=((y:Int),strOfNums zs):=by simpa using hq
   exact⟨y,rfl,hy,hh⟩
 last:=fun z=>by
  rw[lastU_snoc,h.last z]
  by_cases e:z=y
  ·subst e;simp[putL]
  ·have:¬(y:Int)=(z:Int):=by omega
   simp[putL,e,this]
theorem Lku.congr{A A':Nat->Option (List Int)}{ps:List Pu}(h:Lku nb fr bl A ps)(e:A'=A):Lku nb fr bl A' ps:=e ▸ h
theorem seenU_more(ps:List Pu)(q:Pu)(hi:i<ps.length):seenU (ps++[q]) i=seenU ps i:=by
 unfold seenU
 rw[List.getElem?_append_left hi,List.take_append_of_le_length (by omega)]
theorem cntU_more(ps:List Pu)(q:Pu)(hi:i<=ps.length):cntU (ps++[q]) i=cntU ps i:=by
 induction i with
 | zero=>rfl
 | succ i ih=>simp only[cntU];rw[ih (by omega),seenU_more ps q (by omega)]
theorem lenHomeKeys(A:Nat->Option (List Int))(nb:Nat):(homeKeys nb A).length=cntX A nb:=by
 induction nb with
 | zero=>rfl
 | succ n ih=>
  rw[homeKeys_succ,List.length_append,ih]
  simp only[cntX]
  split <;> simp
theorem cntX_congr{H':Type}{a:Nat->Option H}{b:Nat->Option H'}(h:∀y,(a y).isSome=(b y).isSome)(n:Nat):cntX a n=cntX b n:=by
 induction n with
 | zero=>rfl
 | succ n ih=>simp only[cntX];rw[ih,h]
theorem cntU_last{ps:List Pu}(h:∀q∈ps,∃y:Nat,q.1=(y:Int)/\y<nb):cntU ps ps.length=cntX (fun y:Nat=>lastU (y:Int) ps) nb:=by
 induction ps using snocInd with
 | h0=>
  show 0=_
  have:∀n,cntX (fun y:Nat=>lastU (y:Int) []) n=0:=fun n=>by
   induction n with
   | zero=>rfl
   | succ n ih=>simp only[cntX];rw[ih];rfl
  rw[this]
 | h1 l x ih=>
  obtain⟨y,hy,hyn⟩:=h x (by simp)
  have e1:cntX (fun z:Nat=>lastU (z:Int) (l++[x])) nb=cntX (putX (fun z:Nat=>lastU (z:Int) l) y x.2) nb:=cntX_congr (fun z=>by
   rw[lastU_snoc]
   unfold putX
   by_cases e:z=y
   ·have:x.1=(z:Int):=by rw[hy,e]
    simp[e,this]
   ·have:¬x.1=(z:Int):=by rw[hy];omega
    simp[e,this]) nb
  rw[e1,cnt_putX,<- ih (fun q hq=>h q (by simp[hq])),List.length_append]
  show cntU (l++[x]) l.length+_=_
  rw[cntU_more l x (Nat.le_refl _)]
  have e2:seenU (l++[x]) l.length=(lastU (y:Int) l).isSome:=by
   unfold seenU
   rw[lastU_some]
   simp[hy]
  rw[e2]
  cases e3:lastU (y:Int) l with
  | none=>simp[hyn]
  | some b=>simp
theorem Lku.count{A:Nat->Option (List Int)}{ps:List Pu}(h:Lku nb fr bl A ps):(homeKeys nb A).length=cntU ps ps.length:=by
 rw[lenHomeKeys,cntU_last (fun q hq=>by obtain⟨y,e,k,_⟩:=h.home q hq;exact⟨y,e,k⟩)]
 exact cntX_congr (fun y=>by rw[h.last y];cases A y <;> rfl) nb
theorem Lku.keys{A:Nat->Option (List Int)}{ps:List Pu}(h:Lku nb fr bl A ps):∀y,y∈homeKeys nb A->homeC nb fr bl (y:Int)=0:=fun y hy=>by
 obtain⟨_,hy⟩:=List.mem_filter.1 hy
 have e:=h.last y
 have:(lastU (y:Int) ps).isSome=true:=by rw[e];simpa using hy
 rw[lastU_some]at this
 obtain⟨q,hq,hqe⟩:=List.any_eq_true.1 this
 obtain⟨z,e1,_,e2⟩:=h.home q hq
 have:q.1=(y:Int):=by simpa using hqe
 have:z=y:=by omega
 exact this ▸ e2
structure Mq (nb fr bl:Nat) (a:Nat->Option Wr) (ms:List Mr) (val:Nat->List Int) (ps:List Pu) (ks:List Nat):Prop where
 now:Lku nb fr bl (LofA a val) ps
 len:ks.length=ms.length
 at_:∀(i k p:Nat) (b:Nat->Option Wr),ks[i]?=some k->ms[i]?=some (p,b)->k<=ps.length/\Lku nb fr bl (LofA b val) (ps.take k)
 mono:∀(i i' k k':Nat),ks[i]?=some k->ks[i']?=some k'->i<=i'->k<=k'
theorem Mq.nil(nb fr bl:Nat):Mq nb fr bl (fun _=>none) [] (fun _=>[]) [] []:=⟨Lku.nil nb fr bl,rfl,by simp,by simp⟩
theorem Mq.mark{val:Nat->List Int}{ps:List Pu}(h:Mq nb fr bl a ms val ps ks)(q:Nat):Mq nb fr bl a (ms++[(q,a)]) val ps (ks++[ps.length]) where
 now:=h.now
 len:=by simp[h.len]
 at_:=fun i k p b hk hm=>by
  by_cases hi:i<ks.length
  ·rw[List.getElem?_append_left hi]at hk
   rw[List.getElem?_append_left (by rw[<- h.len];exact hi)]at hm
   exact h.at_ i k p b hk hm
  ·have hi2:i=ks.length:=by
    have:=(List.getElem?_eq_some_iff.1 hk).1
    simp at this
    omega
   subst hi2
   rw[h.len]at hm
   simp at hk hm
   obtain⟨_,rfl⟩:=hm
   subst hk
   exact⟨Nat.le_refl _,by rw[List.take_length];exact h.now⟩
 mono:=fun i i' k k' hk hk' hi=>by
  have hl:=(List.getElem?_eq_some_iff.1 hk').1
  simp at hl
  by_cases h2:i'<ks.length
  ·rw[List.getElem?_append_left h2]at hk'
   rw[List.getElem?_append_left (by omega)]at hk
   exact h.mono i i' k k' hk hk' hi
  ·have hi2:i'=ks.length:=by omega
   subst hi2
   simp at hk'
   subst hk'
   by_cases h3:i<ks.length
   ·rw[List.getElem?_append_left h3]at hk
    obtain⟨⟨p,b⟩,hm⟩:∃r,ms[i]?=some r:=⟨_,List.getElem?_eq_getElem (by rw[<- h.len];exact h3)⟩
    exact (h.at_ i k p b hk hm).1
   ·have:i=ks.length:=by omega
    subst this
    simp at hk
    omega
theorem Mq.put{a':Nat->Option Wr}{val val':Nat->List Int}{ps:List Pu}(h:Mq nb fr bl a ms val ps ks)(hy:y<nb)(hh:homeC nb fr bl (y:Int)=0)(zs:List Int)(e1:LofA a' val'=putL (LofA a val) y zs)(e2:∀(i p:Nat) (b:Nat->Option Wr),ms[i]?=some (p,b)->LofA b val'=LofA b val):Mq nb fr bl a' ms val' (ps++[((y:Int),strOfNums zs)]) ks where
 now:=(h.now.put hy hh zs).congr e1
 len:=h.len
 at_:=fun i k p b hk hm=>by
  obtain⟨q1,q2⟩:=h.at_ i k p b hk hm
  refine⟨by simp;omega,?_⟩
  rw[List.take_append_of_le_length q1]
  exact q2.congr (e2 i p b hm)
 mono:=h.mono
theorem Mq.back{val:Nat->List Int}{ps:List Pu}(h:Mq nb fr bl a ms val ps ks){b:Nat->Option Wr}(hk:ks[i]?=some k)(hm:ms[i]?=some (p,b)):Mq nb fr bl b (ms.take (i+1)) val (ps.take k) (ks.take (i+1)) where
 now:=(h.at_ i k p b hk hm).2
 len:=by simp[h.len]
 at_:=fun i' k' p' b' hk' hm'=>by
  have hl:=(List.getElem?_eq_some_iff.1 hk').1
  simp at hl
  rw[List.getElem?_take_of_lt (by omega)]at hk' hm'
  obtain⟨q1,q2⟩:=h.at_ i' k' p' b' hk' hm'
  have q3:=h.mono i' i k' k hk' hk (by omega)
  refine⟨by simp;omega,?_⟩
  rw[List.take_take,Nat.min_eq_left q3]
  exact q2
 mono:=fun j j' k1 k2 hk1 hk2 hj=>by
  have hl:=(List.getElem?_eq_some_iff.1 hk2).1
  have hl1:=(List.getElem?_eq_some_iff.1 hk1).1
  simp at hl hl1
  rw[List.getElem?_take_of_lt (by omega)]at hk1 hk2
  exact h.mono j j' k1 k2 hk1 hk2 hj
def Hk (nb fr bl:Nat) (home:Nat->List Int) (Ts:List Tn) (Fs:List ByteArray) (Ds:List (List Pu)):Prop:=∀y,HomeB nb fr bl y->∀F,Fs[y]?=some F->strOfNums (contT home Ts Ts.length y)=holdsU (y:Int) F Ds
theorem Hk.commit{home:Nat->List Int}{Ts':List Tn}{A:Nat->Option (List Int)}{ps:List Pu}(h:Hk nb fr bl home Ts Fs Ds)(hl:Lku nb fr bl A ps)(hc:∀y,y<nb->contT home Ts' Ts'.length y=(A y).getD (contT home Ts Ts.length y)):Hk nb fr bl home Ts' Fs (Ds++[ps]):=fun y hy F hF=>by
 rw[hc y hy.1,holdsU_snoc,layU_last,hl.last y,<- h y hy F hF]
 cases A y <;> rfl
theorem Hk.same{home:Nat->List Int}{Ts':List Tn}{A:Nat->Option (List Int)}{ps:List Pu}(h:Hk nb fr bl home Ts Fs Ds)(hl:Lku nb fr bl A ps)(hc:∀y,y<nb->contT home Ts' Ts'.length y=(A y).getD (contT home Ts Ts.length y))(h0:cntU ps ps.length=0):Hk nb fr bl home Ts' Fs Ds:=fun y hy F hF=>by
 have hk:homeKeys nb A=[]:=List.length_eq_zero_iff.1 (by rw[hl.count];exact h0)
 have hA:A y=none:=by
  cases e:A y with
  | none=>rfl
  | some zs=>
   have:y∈homeKeys nb A:=List.mem_filter.2 ⟨List.mem_range.2 hy.1,by simp[e]⟩
   rw[hk]at this
   simp at this
 rw[hc y hy.1,hA]
 exact h y hy F hF
end Go.Proofs.YthfojpcibnfmgaaGreat
