import Derived.Test.YtlefjidbpjkhlaaGreatD47
import Derived.Deep.DeepCutAuto
set_option maxRecDepth 100000
set_option maxHeartbeats 16000000
namespace Go.Proofs.YtlefjidbpjkhlaaGreat
variable {bs:List Nat}
variable {B N b c f i k lo n o pc pn r sz t x:Nat}
variable {Y Y':Nat->Prop}
variable {W W' w w' w0:World}
variable {a pa:Option Addr}
variable {F:Cf}
variable {C:Nat->List Int}
variable {L:Nat->Option (List Int)}
variable {Ms:List (Nat->Option (List Int))}
variable {cs ct:Nat->Int}
variable {tv:Value}
variable {PO:Ending->World->Prop}
open Go.RowKit Go.Deep
def pkN (bs:List Nat) (p:Nat->Bool) (pn i:Nat):List Nat:=((List.range i).filter (fun j=>decide (j<pn) && p j)).map (fun j=>bs.getD j 0)
theorem pkN_succ(bs:List Nat)(p:Nat->Bool)(pn i:Nat):pkN bs p pn (i+1)=pkN bs p pn i++(if decide (i<pn) && p i then [bs.getD i 0] else []):=by
 unfold pkN
 rw[List.range_succ,List.filter_append,List.map_append]
 congr 1
 by_cases e:(decide (i<pn) && p i)=true
 ·rw[if_pos e,List.filter_cons_of_pos (p:=fun j=>decide (j<pn) && p j) e]
  rfl
 ·rw[if_neg e,List.filter_cons_of_neg (p:=fun j=>decide (j<pn) && p j) e]
  rfl
theorem pkN_mem{p:Nat->Bool}(hi:i<=bs.length)(h:b∈pkN bs p pn i):∃j,j<i/\bs[j]?=some b:=by
 unfold pkN at h
 obtain⟨j,hj,rfl⟩:=List.mem_map.1 h
 have h1:=List.mem_range.1 (List.mem_filter.1 hj).1
 refine⟨j,h1,?_⟩
 rw[List.getD_eq_getElem?_getD,List.getElem?_eq_getElem (by omega)]
 rfl
theorem pkN_new{p:Nat->Bool}(hn:bs.Nodup)(hb:bs[i]?=some b):¬b∈pkN bs p pn i:=fun h=>by
 have hi:=(List.getElem?_eq_some_iff.1 hb).1
 obtain⟨j,hj,h2⟩:=pkN_mem (by omega) h
 have h3:=List.getElem?_eq_some_iff.1 hb
 have h4:=List.getElem?_eq_some_iff.1 h2
 have:=(List.nodup_iff_pairwise_ne.1 hn)
 exact List.pairwise_iff_getElem.1 this j i h4.1 h3.1 hj (h4.2.trans h3.2.symm)
def RdL (Y:Nat->Prop) (w:World) (a:Option Addr) (n:Nat) (p:Nat->Bool):Prop:=n=0\/∃b off,a=some ⟨b,off,none⟩/\b<w.heap.size/\¬Y b/\∀i,i<n->w.cell? ⟨b,off+i,none⟩=some (.bool (p i))
theorem RdL.keep{p:Nat->Bool}(h:RdL Y w a n p)(hb:But Y w w')(hg:Gr Y Y' w):RdL Y' w' a n p:=by
 rcases h with h | ⟨b,off,e,hl,hy,h⟩
 ·exact .inl h
 ·exact .inr ⟨b,off,e,Nat.lt_of_lt_of_le hl hb.size,fun q=>hy (hg b hl q),fun i hi=>(hb.cell (p:=⟨b,off+i,none⟩) hl hy).trans (h i hi)⟩
theorem row_at{l:List Nat}(h:w.ownsRow B 3 1 (.slice a n c) n ((l).map (fun b:Nat=>Value.int .i64 (b:Int)))){v:Nat}(hv:l[k]?=some v):∃g,a=some ⟨g,0,none⟩/\w.cell? ⟨g,k,none⟩=some (.int .i64 (v:Int)):=by
 have hl:=h.1
 have hk:=(List.getElem?_eq_some_iff.1 hv).1
 rw[List.length_map]at hl
 rcases h.2 with ⟨q,e⟩ | ⟨g',c',cur,q,_,hg,_,_,_,q2⟩
 ·omega
 ·cases q
  refine⟨g',rfl,?_⟩
  have e:(cur.toList.take (n * 1))[k]?=some (.int .i64 (v:Int)):=by
   rw[q2,List.getElem?_map,hv]
   rfl
  rw[List.getElem?_take_of_lt (by omega)]at e
  simp only[World.cell?,hg]
  simpa using e
theorem let_any{Z:Nat}{p:Nat->Bool}(h:OpnZ Y w F Z N C t L Ms)(hsp:Spb w x f r F.st)(hx:¬Y x)(hZ:Z+bs.length<16000000)(hT:Tst C L f r F.nb Z sz cs ct)(hrow:w.ownsRow B 3 1 tv bs.length ((bs).map (fun b:Nat=>Value.int .i64 (b:Int))))(hrY:∀q,tv.ownBlock=some q->¬Y q)(hp:RdL Y w pa pn p)(hn:bs.Nodup)(hbs:∀b∈bs,(1<=b/\b<=sz)/\cs b=1)(hlen:bs.length<=262144) :
  Calls Tryz.prog 12 #[.pointer (some ⟨x,0,none⟩),.pointer (some ⟨t,0,none⟩),tv,.slice pa pn pc] w fun e w'=>∃Y' L' cs',e=.returned (.int .i64 ((pkN bs p pn bs.length).length:Int))/\OpnZ Y' w' F (Z+bs.length) N C t L' Ms/\Tst C L' f r F.nb (Z+bs.length) sz cs' ct/\(∀b,cs' b=if b∈pkN bs p pn bs.length then 0 else cs b)/\(∀y,y<f\/f+pagesN r<=y->L' y=L y)/\Gr Y Y' w/\But Y w w':=by
 obtain⟨PO,hPO⟩:∃PO:Ending->World->Prop,PO=fun e w'=>∃Y' L' cs',e=.returned (.int .i64 ((pkN bs p pn bs.length).length:Int))/\OpnZ Y' w' F (Z+bs.length) N C t L' Ms/\Tst C L' f r F.nb (Z+bs.length) sz cs' ct/\(∀b,cs' b=if b∈pkN bs p pn bs.length then 0 else cs b)/\(∀y,y<f\/f+pagesN r<=y->L' y=L y)/\Gr Y Y' w/\But Y w w':=⟨_,rfl⟩
 rw[<- hPO]
 obtain⟨ta,tc,rfl,_⟩:=owns_slice hrow
 obtain⟨M,hM⟩:∃M,M=bs.length:=⟨_,rfl⟩
 obtain⟨DI,hDI⟩:∃DI:Nat->World->Prop,DI=fun i W=>∃Y' L' cs',OpnZ Y' W F (Z+i) N C t L' Ms/\Tst C L' f r F.nb (Z+i) sz cs' ct/\(∀b,cs' b=if b∈pkN bs p pn i then 0 else cs b)/\(∀y,y<f\/f+pagesN r<=y->L' y=L y)/\Gr Y Y' w/\But Y w W:=⟨_,rfl⟩
 have HD0:Hid (DI 0 w):=by
  rw[hDI]
  exact⟨Y,L,cs,h,hT,fun b=>by simp[pkN],fun _ _=>rfl,fun _ _ q=>q,But.refl _ _⟩
 have HE:Hid (∀W,DI M W->PO (.returned (.int .i64 ((pkN bs p pn M).length:Int))) W):=fun W hd=>by
  rw[hDI,hM]at hd
  rw[hPO,hM]
  obtain⟨Y',L',cs',q1,q2,q3,q4,q5,q6⟩:=hd
  exact⟨Y',L',cs',rfl,q1,q2,q3,q4,q5,q6⟩
 have HP:Hid (∀i W,DI i W->i<pn->∃pb po,pa=some ⟨pb,po,none⟩/\W.cell? ⟨pb,po+i,none⟩=some (.bool (p i))):=fun i W hd hi=>by
  rw[hDI]at hd
  obtain⟨Y',L',cs',q1,q2,q3,q4,q5,q6⟩:=hd
  rcases hp.keep q6 q5 with e | ⟨b,off,e,_,_,hc⟩
  ·omega
  ·exact⟨b,off,e,hc i hi⟩
 have HN:Hid (∀i W,DI i W->(decide (i<pn) && p i)=false->DI (i+1) W):=fun i W hd hf=>by
  rw[hDI]at hd ⊢
  obtain⟨Y',L',cs',q1,q2,q3,q4,q5,q6⟩:=hd
  refine⟨Y',L',cs',q1.mono (by omega),q2.mono (by omega),fun b=>?_,q4,q5,q6⟩
  rw[q3,pkN_succ,hf]
  simp
 have HR:Hid (∀i W,DI i W->i<M->(decide (i<pn) && p i)=true->∃b g:Nat,ta=some ⟨g,0,none⟩/\W.cell? ⟨g,i,none⟩=some (.int .i64 (b:Int))/\Calls Tryz.prog 26 #[.pointer (some ⟨x,0,none⟩),.pointer (some ⟨t,0,none⟩),.int .i64 (b:Int)] W fun e w1=>e=.returned (.tuple #[.int .i64 0,.int .i64 0])/\DI (i+1) w1):=fun i W hd hi hf=>by
  rw[hDI]at hd
  obtain⟨Y',L',cs',q1,q2,q3,q4,q5,q6⟩:=hd
  obtain⟨b,hb⟩:∃b,bs[i]?=some b:=⟨_,List.getElem?_eq_getElem (by omega)⟩
  have hrowW:=owns_keep hrow (fun g' e=>q6.block g' (World.ownsRow.lt hrow g' e).2 (hrY g' e))
  obtain⟨g,rfl,hc⟩:=row_at hrowW hb
  have hxl:=hsp.lt
  have s6:=q6.size
  have hbb:=hbs b (List.mem_of_getElem? hb)
  have hc1:cs' b=1:=by rw[q3,if_neg (pkN_new hn hb),hbb.2]
  refine⟨b,g,rfl,hc,Calls.mono (q1.unref (hsp.keep (q6.block x hxl hx)) (fun q=>hx (q5 x hxl q)) (by omega) q2 b hbb.1) ?_⟩
  rintro e w1 ⟨Y1,L1,cs1,hcs,k1,k2,k3,k4,k5⟩
  rcases hcs with ⟨_,hz,_⟩ | ⟨rfl,_,rfl⟩
  ·omega
  ·refine⟨by rw[hc1];rfl,?_⟩
   rw[hDI]
   refine⟨Y1,L1,_,k1,k2,fun b1=>?_,fun y hy=>(k3 y hy).trans (q4 y hy),fun q hq e=>q5 q hq (k4 q (by omega) e),q6.comp k5 (fun q hq e=>q5 q hq e)⟩
   rw[pkN_succ,hf,if_pos rfl,List.getD_eq_getElem?_getD,hb]
   unfold upd
   rw[q3 b1,hc1]
   simp only[Option.getD_some,List.mem_append,List.mem_singleton]
   by_cases e:b1=b
   ·rw[if_pos e,if_pos (.inr e)]
    rfl
   ·rw[if_neg e]
    by_cases e2:b1∈pkN bs p pn i
    ·rw[if_pos e2,if_pos (.inl e2)]
    ·rw[if_neg e2,if_neg (fun q=>q.elim e2 e)]
 have HKL:Hid (∀i,(pkN bs p pn i).length<=i):=fun i=>by
  unfold pkN
  rw[List.length_map]
  refine Nat.le_trans (List.length_filter_le _ _) ?_
  rw[List.length_range]
  exact Nat.le_refl _
 have HS1:Hid (∀i,(decide (i<pn) && p i)=true->(pkN bs p pn (i+1)).length=(pkN bs p pn i).length+1):=fun i hf=>by
  rw[pkN_succ,if_pos hf,List.length_append]
  rfl
 have HS0:Hid (∀i,(decide (i<pn) && p i)=false->(pkN bs p pn (i+1)).length=(pkN bs p pn i).length):=fun i hf=>by
  rw[pkN_succ,hf]
  simp
 rw[<- hM]at hlen ⊢
 clear h hsp hx hZ hT hDI hPO hM hrow hrY hp hn hbs
 go_enter Tryz.func12,Tryz.ntmps12
 go_wp2_with fail
 go_loopw [9,10] (fun kv iv wr=>∃i:Nat,i<=M/\iv=.int .i64 (i:Int)/\kv=.int .i64 ((pkN bs p pn i).length:Int)/\DI i wr) (fun _ iv _=>M-(intOf iv).toNat)
 case atStart=>exact⟨0,Nat.zero_le _,rfl,rfl,HD0.out⟩
 case round=>
  clear HD0
  rename World=>wo
  obtain⟨i,hiM,rfl,rfl,hd⟩:=hrel
  by_cases hi:i<M
  ·have hi':(i:Int)<(M:Int):=by omega
   have hKl:=HKL.out i
   by_cases hpn:i<pn
   ·have hpn':(i:Int)<(pn:Int):=by omega
    obtain⟨pb,po,rfl,hpc⟩:=HP.out i _ hd hpn
    cases hpi:p i with
    | false=>
     rw[hpi]at hpc
     have hf:(decide (i<pn) && p i)=false:=by rw[hpi,Bool.and_false]
     have HD3:=hid (HN.out i _ hd hf)
     have HL:=hid (HS0.out i hf)
     clear HR HE hd HP HN HS1 HS0 HKL
     go_wp2_with fail
     go_roundw
     case rel=>exact⟨i+1,by omega,by go_num,by rw[HL.out],HD3.out⟩
     case measure=>simp[intOf];omega
    | true=>
     rw[hpi]at hpc
     have hf:(decide (i<pn) && p i)=true:=by rw[hpi,Bool.and_true];exact decide_eq_true hpn
     have HL:=hid (HS1.out i hf)
     obtain⟨b,g,rfl,hc,hcall⟩:=HR.out i _ hd hi hf
     have HC:=hid hcall
     clear HR HE hd HP HN HS1 HS0 HKL hcall
     go_wp2_with fail
     refine Calls.mono HC.out ?_
     rintro e w1 ⟨rfl,hd3⟩
     have HD3:=hid hd3
     clear hd3 HC
     go_wp2_with fail
     refine Calls.mono (num_any 0 w1) ?_
     rintro e w9 ⟨rfl,hw9⟩
     rw[hw9]
     clear hw9
     go_wp2_with fail
     go_roundw
     case rel=>exact⟨i+1,by omega,by go_num,by rw[HL.out];go_num,HD3.out⟩
     case measure=>simp[intOf];omega
   ·have hpn':¬(i:Int)<(pn:Int):=by omega
    have hf:(decide (i<pn) && p i)=false:=by rw[decide_eq_false hpn,Bool.false_and]
    have HD3:=hid (HN.out i _ hd hf)
    have HL:=hid (HS0.out i hf)
    clear HR HE hd HP HN HS1 HS0 HKL
    go_wp2_with fail
    go_roundw
    case rel=>exact⟨i+1,by omega,by go_num,by rw[HL.out],HD3.out⟩
    case measure=>simp[intOf];omega
  ·have hi':¬(i:Int)<(M:Int):=by omega
   have hie:i=M:=by omega
   subst hie
   have FIN:=hid (HE.out _ hd)
   clear HR HE hd HP HN HS1 HS0 HKL
   go_wp2
   exact FIN.out
open Go.RowKit Go.Deep
theorem nodup_len{l l':List Nat}(hn:l.Nodup)(hs:∀b∈l,b∈l'):l.length<=l'.length:=by
 induction l generalizing l' with
 | nil=>exact Nat.zero_le _
 | cons a l ih=>
  have hm:=hs a (List.mem_cons_self ..)
  have hn2:=List.nodup_cons.1 hn
  have:=ih (l':=l'.erase a) hn2.2 (fun b hb=>by
   have hne:b≠a:=fun q=>hn2.1 (by rw[<- q];exact hb)
   exact (List.mem_erase_of_ne hne).2 (hs b (List.mem_cons_of_mem _ hb)))
  rw[List.length_erase_of_mem hm]at this
  have:=List.length_pos_of_mem hm
  rw[List.length_cons]
  omega
theorem frA_nodup(cs ct:Nat->Int)(sz:Nat):(frA cs ct sz).Nodup:=(frA_sorted cs ct sz).imp (fun h=>by omega)
theorem pkN_nodup(hn:bs.Nodup)(p:Nat->Bool)(pn i:Nat)(hi:i<=bs.length):(pkN bs p pn i).Nodup:=by
 induction i with
 | zero=>simp[pkN]
 | succ i ih=>
  rw[pkN_succ]
  split
  ·obtain⟨b,hb⟩:∃b,bs[i]?=some b:=⟨_,List.getElem?_eq_getElem (by omega)⟩
   rw[List.getD_eq_getElem?_getD,hb]
   refine List.nodup_append.2 ⟨ih (by omega),by simp,fun a ha b' hb'=>?_⟩
   have e:b'=b:=by simpa using hb'
   rw[e]
   exact fun q=>pkN_new hn hb (q ▸ ha)
  ·rw[List.append_nil]
   exact ih (by omega)
theorem fr_picked(hn:bs.Nodup)(hb:∀b∈bs,1<=b/\b<=sz)(p:Nat->Bool)(pn:Nat)(h:∀b,1<=b->b<=sz->(cs b=0/\ct b=0 ↔ b∈pkN bs p pn bs.length)):(frA cs ct sz).length=(pkN bs p pn bs.length).length:=by
 refine Nat.le_antisymm (nodup_len (frA_nodup _ _ _) (fun b q=>?_)) (nodup_len (pkN_nodup hn p pn _ (Nat.le_refl _)) (fun b q=>?_))
 ·obtain⟨q1,q2⟩:=frA_mem.1 q
  exact (h b q1.1 q1.2).1 q2
 ·obtain⟨j,_,hj⟩:=pkN_mem (Nat.le_refl _) q
  have h1:=hb b (List.mem_of_getElem? hj)
  exact frA_mem.2 ⟨h1,(h b h1.1 h1.2).2 q⟩
structure SdS (w0:World) (o x0:Nat) (F:Cf) (r:Nat) (ob:Obj) (tv:Value) (bs:List Nat) (Y:Nat->Prop) (W:World):Prop where
 bel:Below w0.heap.size w0 W
 y:∀k,Y k->w0.heap.size<=k
 wb:W.heap[o]?=some ob
 no:¬Y o
 sp:Spb W x0 65 r F.st
 nx:¬Y x0
 row:W.ownsRow w0.heap.size 3 1 tv bs.length ((bs).map (fun b:Nat=>Value.int .i64 (b:Int)))
 rY:∀q,tv.ownBlock=some q->¬Y q
theorem SdS.step{x0:Nat}{ob:Obj}(h:SdS w0 o x0 F r ob tv bs Y W)(hb:But Y W W')(hg:Gr Y Y' W):SdS w0 o x0 F r ob tv bs Y' W':=by
 have hol:=(Array.getElem?_eq_some_iff.1 h.wb).1
 have hxl:=h.sp.lt
 have s0:=h.bel.size
 refine⟨h.bel.trans (hb.below s0 (fun k hk q=>by have:=h.y k q;omega)),fun k q=>?_,(hb.block o hol h.no).trans h.wb,fun q=>h.no (hg o hol q),h.sp.keep (hb.block x0 hxl h.nx),fun q=>h.nx (hg x0 hxl q),owns_keep h.row (fun g' e=>hb.block g' (World.ownsRow.lt h.row g' e).2 (h.rY g' e)),fun q e e2=>h.rY q e (hg q (World.ownsRow.lt h.row q e).2 e2)⟩
 rcases Nat.lt_or_ge k W.heap.size with hk | hk
 ·exact h.y k (hg k hk q)
 ·omega
def Sdl (w0:World) (o x0:Nat) (F:Cf) (r c:Nat) (ob:Obj) (zb nb:Nat) (tv:Value) (bs:List Nat) (cs:Nat->Int) (W:World):Prop:=∃Y Z N C,(Z<=zb/\N<=nb)/\IdlZ Y W F Z N C/\Tst C (fun _=>none) 65 r F.nb Z c cs cs/\SdS w0 o x0 F r ob tv bs Y W
def SdC3 (st o x0:Nat) (PO:Ending->World->Prop) (k:Nat) (W:World):Prop :=
 W.cell? ⟨o,1,none⟩=some (.pointer (some ⟨st,0,none⟩))/\Calls Tryz.prog 9 #[.pointer (some ⟨st,0,none⟩)] W fun e w2=>∃t,e=.returned (.tuple #[.pointer (some ⟨t,0,none⟩),.int .i64 0])/\Calls Tryz.prog 10 #[.pointer (some ⟨x0,0,none⟩),.pointer (some ⟨t,0,none⟩)] w2 fun e w3=>∃a cap,e=.returned (.tuple #[.slice a k cap,.bool true])/\PO (.returned (.bool true)) w3
def SdR (st o x0:Nat) (tv mv:Value) (fn:Nat) (nx:Nat->World->Prop) (W:World):Prop :=
 W.cell? ⟨o,1,none⟩=some (.pointer (some ⟨st,0,none⟩))/\Calls Tryz.prog 9 #[.pointer (some ⟨st,0,none⟩)] W fun e w2=>∃t,e=.returned (.tuple #[.pointer (some ⟨t,0,none⟩),.int .i64 0])/\Calls Tryz.prog 12 #[.pointer (some ⟨x0,0,none⟩),.pointer (some ⟨t,0,none⟩),tv,mv] w2 fun e w3=>∃k:Nat,e=.returned (.int .i64 (k:Int))/\Calls Tryz.prog 10 #[.pointer (some ⟨x0,0,none⟩),.pointer (some ⟨t,0,none⟩)] w3 fun e w4=>∃a cap,e=.returned (.tuple #[.slice a 0 cap,.bool true])/\Calls Tryz.prog fn #[.pointer (some ⟨t,0,none⟩)] w4 fun e w5=>e=.returned (.int .i64 0)/\nx k w5
def SdC1 (st o x0 c:Nat) (pv:Value) (nx:Value->World->Prop) (W:World):Prop :=
 (W.cell? ⟨o,3,none⟩=some (.pointer (some ⟨x0,0,none⟩))/\W.cell? ⟨o,1,none⟩=some (.pointer (some ⟨st,0,none⟩)))/\Calls Tryz.prog 9 #[.pointer (some ⟨st,0,none⟩)] W fun e w2=>∃t,e=.returned (.tuple #[.pointer (some ⟨t,0,none⟩),.int .i64 0])/\Calls Tryz.prog 10 #[.pointer (some ⟨x0,0,none⟩),.pointer (some ⟨t,0,none⟩)] w2 fun e w3=>∃a cap,e=.returned (.tuple #[.slice a c cap,.bool true])/\Calls Tryz.prog 12 #[.pointer (some ⟨x0,0,none⟩),.pointer (some ⟨t,0,none⟩),.slice a c cap,pv] w3 fun e w4=>∃k:Nat,e=.returned (.int .i64 (k:Int))/\Calls Tryz.prog 10 #[.pointer (some ⟨x0,0,none⟩),.pointer (some ⟨t,0,none⟩)] w4 fun e w5=>∃a2 cap2,e=.returned (.tuple #[.slice a2 k cap2,.bool true])/\Calls Tryz.prog 13 #[.pointer (some ⟨t,0,none⟩)] w5 fun e w6=>e=.returned (.int .i64 0)/\nx (.slice a c cap) w6
section
variable {w0:World} {o x0:Nat} {F:Cf} {r c:Nat} {ob:Obj} {zb nb:Nat} {tv:Value} {bs:List Nat} {cs:Nat->Int} {W:World}
theorem RdL.at{p:Nat->Bool}(hp:RdL (fun k=>w0.heap.size<=k) w0 pa pn p)(h:SdS w0 o x0 F r ob tv bs Y W):RdL Y W pa pn p:=by
 rcases hp with e | ⟨b,off,e,hl,hy,hc⟩
 ·exact .inl e
 ·exact .inr ⟨b,off,e,Nat.lt_of_lt_of_le hl h.bel.size,fun q=>by have:=h.y b q;omega,fun i hi=>(h.bel.cell (p:=⟨b,off+i,none⟩) hl).trans (hc i hi)⟩
theorem Sdl.last(h:Sdl w0 o x0 F r c ob zb nb tv bs cs W)(hzb:zb+2 * c+10<16000000)(hPO:∀w',Below w0.heap.size w0 w'->PO (.returned (.bool true)) w')(hst:∀W:World,W.heap[o]?=some ob->W.cell? ⟨o,1,none⟩=some (.pointer (some ⟨F.st,0,none⟩)))(hk:(frA cs cs c).length=k):SdC3 F.st o x0 PO k W:=by
 obtain⟨Y,Z,N,C,hz,h1,h2,h3⟩:=h
 have hl:=frA_len cs cs c
 refine⟨hst W h3.wb,Calls.mono h1.begin ?_⟩
 rintro e w2 ⟨t,Y2,rfl,q1,_,q3,q4⟩
 have h3b:=h3.step q4 q3
 refine⟨t,rfl,Calls.mono (drained_any q1 h3b.sp h3b.nx (by omega) h2) ?_⟩
 rintro e w3 ⟨tv3,Y3,L3,cs3,rfl,r1,_,_,_,_,_,_,r8,r9⟩
 obtain⟨a,cap,rfl,_⟩:=owns_slice r1
 rw[hk]
 exact⟨a,cap,rfl,hPO w3 (h3b.step r9 r8).bel⟩
theorem Sdl.later(h:Sdl w0 o x0 F r c ob zb nb tv bs cs W)(hzb:zb+3 * c+10<16000000)(hnb:nb<1000000)(hr:pagesN r<=28)(hst:∀W:World,W.heap[o]?=some ob->W.cell? ⟨o,1,none⟩=some (.pointer (some ⟨F.st,0,none⟩))){p:Nat->Bool}(hp:RdL (fun k=>w0.heap.size<=k) w0 pa pn p)(hn:bs.Nodup)(hbs:∀b,b∈bs ↔ 1<=b/\b<=c)(hcs:∀b,1<=b->b<=c->cs b=1){fn:Nat}{nx:Nat->World->Prop}(hfn:(fn=14/\∀k W',Sdl w0 o x0 F r c ob (zb+3 * c+2) (nb+1) tv bs cs W'->nx k W')\/(fn=13/\∀k W' cs',Sdl w0 o x0 F r c ob (zb+3 * c+2) (nb+1) tv bs cs' W'->(frA cs' cs' c).length=k->nx k W')):SdR F.st o x0 tv (.slice pa pn pc) fn nx W:=by
 obtain⟨Y,Z,N,C,hz,h1,h2,h3⟩:=h
 have hsz:=h2.sz1
 have hr0:=h2.hP.hr
 have hbl:bs.length<=c:=by
  have:=nodup_len (l':=(List.range (c+1)).tail) hn (fun b hb=>by
   have:=(hbs b).1 hb
   rw[List.range_eq_range',List.tail_range']
   exact List.mem_range'_1.2 (by omega))
  rw[List.length_tail,List.length_range]at this
  omega
 refine⟨hst W h3.wb,Calls.mono h1.begin ?_⟩
 rintro e w2 ⟨t,Y2,rfl,q1,_,q3,q4⟩
 have h3b:=h3.step q4 q3
 refine⟨t,rfl,Calls.mono (let_any q1 h3b.sp h3b.nx (by omega) h2 h3b.row h3b.rY (hp.at h3b) hn (fun b hb=>⟨(hbs b).1 hb,hcs b ((hbs b).1 hb).1 ((hbs b).1 hb).2⟩) (by omega)) ?_⟩
 rintro e w3 ⟨Y3,L3,cs3,rfl,r1,r2,r3,r4,r5,r6⟩
 have h3c:=h3b.step r6 r5
 have hfr:frA cs3 cs c=[]:=by
  rw[List.eq_nil_iff_forall_not_mem]
  intro b hb
  obtain⟨q1,_,q3⟩:=frA_mem.1 hb
  rw[hcs b q1.1 q1.2]at q3
  omega
 refine⟨_,rfl,Calls.mono (drained_any r1 h3c.sp h3c.nx (by rw[hfr];simp;omega) r2) ?_⟩
 rintro e w4 ⟨tv4,Y4,L4,cs4,rfl,s1,_,s3,s4,_,s6,s7,s8,s9⟩
 rw[hfr]at s1 s3 s4 s6
 have h3d:=h3c.step s9 s8
 obtain⟨a,cap,rfl,_⟩:=owns_slice s1
 refine⟨a,cap,rfl,?_⟩
 have hsc:szOf (C 65)=(c:Int):=h2.sz
 rcases hfn with ⟨rfl,hnx⟩ | ⟨rfl,hnx⟩
 ·refine Calls.mono s3.abort ?_
  rintro e w5 ⟨Y5,rfl,t1,t2,t3⟩
  refine⟨rfl,hnx _ _ ⟨Y5,_,N,C,⟨?_,by omega⟩,t1,(s4.gone hsc),h3d.step t3 t2⟩⟩
  simp
  omega
 ·have hL:∀y,(L4 y).isSome->65<=y/\y<65+pagesN r:=fun y hy=>by
   by_cases e:65<=y/\y<65+pagesN r
   ·exact e
   ·have e1:=s7 y (by omega)
    rw[r4 y (by omega)]at e1
    rw[e1]at hy
    cases hy
  refine Calls.mono (s3.commit (by omega) hr hL) ?_
  rintro e w5 ⟨Y5,rfl,t1,t2,t3⟩
  refine⟨rfl,hnx _ _ cs4 ⟨Y5,_,N+1,_,⟨?_,by omega⟩,t1,s4.fresh (fun y _ _=>rfl),h3d.step t3 t2⟩ ?_⟩
  ·simp
   omega
  ·refine fr_picked hn (fun b hb=>(hbs b).1 hb) p pn (fun b b1 b2=>?_)
   have e4:cs4 b=if b∈pkN bs p pn bs.length then 0 else 1:=by
    rw[s6 b,if_neg (by simp),r3 b]
    split
    ·rfl
    ·exact hcs b b1 b2
   rw[e4]
   by_cases e:b∈pkN bs p pn bs.length
   ·simp[e]
   ·simp[e]
theorem Sdl.first(h:Sdl w0 o x0 F r c ob zb nb (.slice none 0 0) [] (fun _=>0) W)(hzb:zb+5 * c+10<16000000)(hnb:nb<1000000)(hr:pagesN r<=28)(hst:∀W:World,W.heap[o]?=some ob->W.cell? ⟨o,3,none⟩=some (.pointer (some ⟨x0,0,none⟩))/\W.cell? ⟨o,1,none⟩=some (.pointer (some ⟨F.st,0,none⟩))){p:Nat->Bool}(hp:RdL (fun k=>w0.heap.size<=k) w0 pa pn p){nx:Value->World->Prop}(hnx:∀tv bs cs W',bs.Nodup->(∀b,b∈bs ↔ 1<=b/\b<=c)->(∀b,1<=b->b<=c->cs b=1)->Sdl w0 o x0 F r c ob (zb+5 * c+4) (nb+1) tv bs cs W'->nx tv W'):SdC1 F.st o x0 c (.slice pa pn pc) nx W:=by
 obtain⟨Y,Z,N,C,hz,h1,h2,h3⟩:=h
 have hsz:=h2.sz1
 have hr0:=h2.hP.hr
 obtain⟨bs,hbse⟩:∃bs,bs=frA (fun _=>0) (fun _=>0) c:=⟨_,rfl⟩
 have hn:bs.Nodup:=by rw[hbse];exact frA_nodup _ _ _
 have hbs:∀b,b∈bs ↔ 1<=b/\b<=c:=fun b=>by
  rw[hbse,frA_mem]
  simp
 have hbl:bs.length=c:=by
  rw[hbse]
  unfold frA
  rw[List.filter_eq_self.2 (by simp),List.length_map,List.length_range]
 refine⟨hst W h3.wb,Calls.mono h1.begin ?_⟩
 rintro e w2 ⟨t,Y2,rfl,q1,_,q3,q4⟩
 have h3b:=h3.step q4 q3
 refine⟨t,rfl,Calls.mono (drained_any q1 h3b.sp h3b.nx (by rw[<- hbse];omega) h2) ?_⟩
 rintro e w3 ⟨tv3,Y3,L3,cs3,rfl,r1,r2,r3,r4,r5,r6,r7,r8,r9⟩
 rw[<- hbse]at r1 r3 r4 r6
 have h3c:=h3b.step r9 r8
 have s0:=h3b.bel.size
 have h3c':SdS w0 o x0 F r ob tv3 bs Y3 w3:={ h3c with row:=owns_base r1 s0,rY:=r2 }
 obtain⟨a,cap,rfl,_⟩:=owns_slice r1
 have hone:∀b∈bs,cs3 b=1:=fun b hb=>by rw[r6 b,if_pos hb]
 rw[hbl]
 rw[hbl]at h3c' r3 r4
 refine⟨a,cap,rfl,Calls.mono (let_any r3 h3c.sp h3c.nx (by omega) r4 h3c'.row h3c'.rY (hp.at h3c) hn (fun b hb=>⟨(hbs b).1 hb,hone b hb⟩) (by omega)) ?_⟩
 rintro e w4 ⟨Y4,L4,cs4,rfl,s1,s2,s3,s4,s5,s6⟩
 have h3d:=h3c'.step s6 s5
 have hfr:(frA cs4 (fun _=>0) c).length=(pkN bs p pn bs.length).length:=by
  refine fr_picked hn (fun b hb=>(hbs b).1 hb) p pn (fun b b1 b2=>?_)
  have e4:cs4 b=if b∈pkN bs p pn bs.length then 0 else 1:=by
   rw[s3 b]
   split
   ·rfl
   ·exact hone b ((hbs b).2 ⟨b1,b2⟩)
  rw[e4]
  by_cases e:b∈pkN bs p pn bs.length
  ·simp[e]
  ·simp[e]
 have hfl:=frA_len cs4 (fun _=>0) c
 refine⟨_,rfl,Calls.mono (drained_any s1 h3d.sp h3d.nx (by omega) s2) ?_⟩
 rintro e w5 ⟨tv5,Y5,L5,cs5,rfl,t1,_,t3,t4,_,t6,t7,t8,t9⟩
 have h3e:=h3d.step t9 t8
 rw[hfr]at t1
 obtain⟨a2,cap2,rfl,_⟩:=owns_slice t1
 refine⟨a2,cap2,rfl,?_⟩
 have hL:∀y,(L5 y).isSome->65<=y/\y<65+pagesN r:=fun y hy=>by
  by_cases e:65<=y/\y<65+pagesN r
  ·exact e
  ·have e1:=t7 y (by omega)
   rw[s4 y (by omega),r7 y (by omega)]at e1
   rw[e1]at hy
   cases hy
 refine Calls.mono (t3.commit (by omega) hr hL) ?_
 rintro e w6 ⟨Y6,rfl,u1,u2,u3⟩
 refine⟨rfl,hnx _ bs cs5 _ hn hbs (fun b b1 b2=>?_) ⟨Y6,_,N+1,_,⟨?_,by omega⟩,u1,t4.fresh (fun y _ _=>rfl),h3e.step u3 u2⟩⟩
 ·rw[t6 b]
  split
  ·rfl
  ·rename_i hne
   rw[s3 b]
   split
   ·rename_i hm
    refine absurd (frA_mem.2 ⟨⟨b1,b2⟩,?_,rfl⟩) hne
    rw[s3 b,if_pos hm]
   ·exact hone b ((hbs b).2 ⟨b1,b2⟩)
 ·omega
end
def inN (lo hi:Nat) (x:Int):Nat:=lo+into (hi+1-lo) x
theorem inN_lo(lo hi:Nat)(x:Int):lo<=inN lo hi x:=by unfold inN;omega
theorem inN_hi{hi:Nat}(x:Int)(h:lo<=hi):inN lo hi x<=hi:=by have:=into_lt (m:=hi+1-lo) x (by omega);unfold inN;omega
theorem within_any(x:Int)(lo hi:Nat)(h:lo<=hi)(hh:hi<=1000000)(w:World):Calls Tryz.prog 7 #[.int .i64 x,.int .i64 (lo:Int),.int .i64 (hi:Int)] w fun q w'=>q=.returned (.int .i64 (inN lo hi x:Int))/\w'=w:=by
 have e0:(hi:Int)-(lo:Int)+1=((hi+1-lo:Nat):Int):=by omega
 have e1:=into_eq (hi+1-lo) x
 have e2:=into_lt (m:=hi+1-lo) x (by omega)
 have e3:(inN lo hi x:Int)=(lo:Int)+(into (hi+1-lo) x:Int):=by unfold inN;omega
 rw[e3]
 generalize into (hi+1-lo) x=z at *
 generalize hM:hi+1-lo=M at *
 have p1:=and62_pos x
 go_enter Tryz.func7,Tryz.ntmps7
 go_wp2
 go_ret
 exact⟨rfl,rfl⟩
open Go.RowKit Go.Deep
theorem drains_walk{room count:Int}{ma:Option Addr}{mn mc:Nat}(H:∀r c:Nat,(1<=r/\r<=900)->(1<=c/\c<=r)->Calls Tryz.prog 8 #[.agg #[.int .i64 (r:Int),.int .i64 1],.agg #[.int .i64 (c:Int),.int .i64 1]] w fun e w1=>∃o x0 st,e=.returned (.pointer (some ⟨o,0,none⟩))/\SdC1 st o x0 c (.slice pa pn pc) (fun tv=>SdR st o x0 tv (.slice ma mn mc) 14 (fun _=>SdR st o x0 tv (.slice ma mn mc) 13 (SdC3 st o x0 PO))) w1) :
  Calls Tryz.prog 3 #[.int .i64 room,.int .i64 count,.slice pa pn pc,.slice ma mn mc] w PO:=by
 have W1:Hid (Calls Tryz.prog 7 #[.int .i64 room,.int .i64 1,.int .i64 900] w fun q w'=>q=.returned (.int .i64 (inN 1 900 room:Int))/\w'=w):=within_any room 1 900 (by decide) (by decide) w
 have hr1:=inN_lo 1 900 room
 have hr2:=inN_hi (lo:=1) (hi:=900) room (by decide)
 generalize inN 1 900 room=r at *
 have W2:Hid (Calls Tryz.prog 7 #[.int .i64 count,.int .i64 1,.int .i64 (r:Int)] w fun q w'=>q=.returned (.int .i64 (inN 1 r count:Int))/\w'=w):=within_any count 1 r hr1 (by omega) w
 have hc1:=inN_lo 1 r count
 have hc2:=inN_hi (lo:=1) (hi:=r) count hr1
 generalize inN 1 r count=c at *
 have HH:=hid (H r c ⟨hr1,hr2⟩ ⟨hc1,hc2⟩)
 clear H
 go_enter Tryz.func3,Tryz.ntmps3
 go_wp2_with fail
 refine Calls.mono W1.out ?_
 rintro e w9 ⟨rfl,hw9⟩
 rw[hw9]
 clear hw9 W1
 go_wp2_with fail
 refine Calls.mono W2.out ?_
 rintro e w9 ⟨rfl,hw9⟩
 rw[hw9]
 clear hw9 W2
 go_wp2_with fail
 refine Calls.mono HH.out ?_
 rintro e w1 ⟨o,x0,st,rfl,⟨c3,c1⟩,hb⟩
 have HB:=hid hb
 clear hb HH
 go_wp2_with fail
 refine Calls.mono HB.out ?_
 rintro e w2 ⟨t,rfl,h2⟩
 have H2:=hid h2
 clear h2 HB c1 c3
 go_wp2_with fail
 refine Calls.mono H2.out ?_
 rintro e w3 ⟨a,cap,rfl,h3⟩
 have H3:=hid h3
 clear h3 H2
 go_wp2_with fail
 refine Calls.mono (num_any 0 w3) ?_
 rintro e w9 ⟨rfl,hw9⟩
 rw[hw9]
 clear hw9
 go_wp2_with fail
 refine Calls.mono H3.out ?_
 rintro e w4 ⟨k,rfl,h4⟩
 have H4:=hid h4
 have hk0:¬(k:Int)<0:=by omega
 clear h4 H3
 go_wp2_with fail
 refine Calls.mono H4.out ?_
 rintro e w5 ⟨a2,cap2,rfl,h5⟩
 have H5:=hid h5
 clear h5 H4
 go_wp2_with fail
 refine Calls.mono H5.out ?_
 rintro e w6 ⟨rfl,h6⟩
 have H6:=hid h6
 clear h6 H5
 go_wp2_with fail
 refine Calls.mono (num_any 0 w6) ?_
 rintro e w9 ⟨rfl,hw9⟩
 rw[hw9]
 clear hw9
 go_wp2_with fail
 go_loopw [13,14,17,20] (fun tv ev kv iv wr=>(iv=.int .i64 0/\SdR st o x0 (.slice a c cap) (.slice ma mn mc) 14 (fun _=>SdR st o x0 (.slice a c cap) (.slice ma mn mc) 13 (SdC3 st o x0 PO)) wr)\/(iv=.int .i64 1/\SdR st o x0 (.slice a c cap) (.slice ma mn mc) 13 (SdC3 st o x0 PO) wr)\/(∃k:Nat,iv=.int .i64 2/\kv=.int .i64 (k:Int)/\SdC3 st o x0 PO k wr)) (fun _ _ _ iv _=>2-(intOf iv).toNat)
 case atStart=>exact .inl ⟨rfl,H6.out⟩
 case round=>
  clear H6 hk0
  rename World=>wo
  rcases hrel with ⟨rfl,hd⟩ | ⟨rfl,hd⟩ | ⟨k,rfl,rfl,hd⟩
  ·as_aux_lemma=>
   obtain⟨c1,hb⟩:=hd
   have HB:=hid hb
   clear hb
   go_wp2_with fail
   refine Calls.mono HB.out ?_
   rintro e w2 ⟨t,rfl,h2⟩
   have H2:=hid h2
   clear h2 HB c1
   go_wp2_with fail
   refine Calls.mono H2.out ?_
   rintro e w3 ⟨k,rfl,h3⟩
   have H3:=hid h3
   have hk0:¬(k:Int)<0:=by omega
   clear h3 H2
   go_wp2_with fail
   refine Calls.mono H3.out ?_
   rintro e w4 ⟨a,cap,rfl,h4⟩
   have H4:=hid h4
   clear h4 H3
   go_wp2_with fail
   refine Calls.mono (num_any 0 w4) ?_
   rintro e w9 ⟨rfl,hw9⟩
   rw[hw9]
   clear hw9
   go_wp2_with fail
   refine Calls.mono H4.out ?_
   rintro e w5 ⟨rfl,h5⟩
   have H5:=hid h5
   clear h5 H4
   go_wp2_with fail
   refine Calls.mono (num_any 0 w5) ?_
   rintro e w9 ⟨rfl,hw9⟩
   rw[hw9]
   clear hw9
   go_wp2_with fail
   go_roundw
   case rel=>exact .inr (.inl ⟨by go_num,H5.out⟩)
   case measure=>simp[intOf]
  ·as_aux_lemma=>
   obtain⟨c1,hb⟩:=hd
   have HB:=hid hb
   clear hb
   go_wp2_with fail
   refine Calls.mono HB.out ?_
   rintro e w2 ⟨t,rfl,h2⟩
   have H2:=hid h2
   clear h2 HB c1
   go_wp2_with fail
   refine Calls.mono H2.out ?_
   rintro e w3 ⟨k,rfl,h3⟩
   have H3:=hid h3
   have hk0:¬(k:Int)<0:=by omega
   clear h3 H2
   go_wp2_with fail
   refine Calls.mono H3.out ?_
   rintro e w4 ⟨a,cap,rfl,h4⟩
   have H4:=hid h4
   clear h4 H3
   go_wp2_with fail
   refine Calls.mono (num_any 0 w4) ?_
   rintro e w9 ⟨rfl,hw9⟩
   rw[hw9]
   clear hw9
   go_wp2_with fail
   refine Calls.mono H4.out ?_
   rintro e w5 ⟨rfl,h5⟩
   have H5:=hid h5
   clear h5 H4
   go_wp2_with fail
   refine Calls.mono (num_any 0 w5) ?_
   rintro e w9 ⟨rfl,hw9⟩
   rw[hw9]
   clear hw9
   go_wp2_with fail
   go_roundw
   case rel=>exact .inr (.inr ⟨k,by go_num,rfl,H5.out⟩)
   case measure=>simp[intOf]
  ·as_aux_lemma=>
   obtain⟨c1,hb⟩:=hd
   have HB:=hid hb
   clear hb
   go_wp2_with fail
   refine Calls.mono HB.out ?_
   rintro e w2 ⟨t,rfl,h2⟩
   have H2:=hid h2
   clear h2 HB c1
   go_wp2_with fail
   refine Calls.mono H2.out ?_
   rintro e w3 ⟨a,cap,rfl,hp⟩
   have HP:=hid hp
   clear hp H2
   go_wp2_with fail
   refine Calls.mono (num_any 0 w3) ?_
   rintro e w9 ⟨rfl,hw9⟩
   rw[hw9]
   clear hw9
   go_wp2_with fail
   exact HP.out
open Go.RowKit Go.Deep
theorem drains_law(room count:Int)(pa ma:Option Addr)(pn pc mn mc:Nat)(p m:Nat->Bool)(w:World)(hp:RdL (fun k=>w.heap.size<=k) w pa pn p)(hm:RdL (fun k=>w.heap.size<=k) w ma mn m) :
  Calls Tryz.prog 3 #[.int .i64 room,.int .i64 count,.slice pa pn pc,.slice ma mn mc] w fun e w'=>e=.returned (.bool true)/\Below w.heap.size w w':=by
 refine drains_walk (fun r c hr hc=>?_)
 have hp1:pagesN 1=2:=by decide
 have hpr:=pagesN_hi hr.1
 have hpl:=pagesN_lo hr.1
 refine Calls.mono (world_any (r0:=r) (r1:=1) (c0:=c) (c1:=1) (by omega) (by omega) hc (by omega) (by rw[hp1];omega) w) ?_
 rintro e w1 ⟨o,x0,x1,F,F2,Y,Y2,t0,t2,rfl,hw,hnb,hi,_,b1⟩
 rw[hp1]at hnb hi
 obtain⟨ob,hob⟩:∃ob:Obj,ob=.cells (wcs (.pointer (some ⟨F.p,0,none⟩)) (.pointer (some ⟨F.st,0,none⟩)) (.pointer (some ⟨t2,0,none⟩)) (.pointer (some ⟨x0,0,none⟩)) (.pointer (some ⟨x1,0,none⟩)) 65 (65+pagesN r) r 1 (.pointer none) (.pointer (some ⟨t0,0,none⟩)) false) 33 (0,0):=⟨_,rfl⟩
 have hst:∀W:World,W.heap[o]?=some ob->W.cell? ⟨o,3,none⟩=some (.pointer (some ⟨x0,0,none⟩))/\W.cell? ⟨o,1,none⟩=some (.pointer (some ⟨F.st,0,none⟩)):=fun W h=>by
  rw[hob]at h
  have hW:Wlb W o _:=h
  exact⟨hW.cell 3,hW.cell 1⟩
 have hC:∀j,j<pagesN r->Cw F.nb r 1 c 1 (65+j)=lpg r c 0 j:=fun j hj=>by
  unfold Cw L2w
  rw[layL_apply,if_neg (by omega),layL_apply,if_pos (by omega),Nat.add_sub_cancel_left]
  rfl
 have h0:Sdl w o x0 F r c ob 1 1 (.slice none 0 0) [] (fun _=>0) w1:=by
  refine⟨Y,1,1,_,⟨Nat.le_refl _,Nat.le_refl _⟩,⟨_,by omega,hi⟩,(Tst.laid (by omega) hc (by omega) (by omega) hC (fun _ _ _=>rfl)).mono (by omega),⟨b1,hw.ap.y,?_,hw.no.1,hw.s0,hw.no.2.1,⟨rfl,.inl ⟨rfl,rfl⟩⟩,fun q e=>by cases e⟩⟩
  rw[hob]
  exact hw.wb
 refine⟨o,x0,F.st,rfl,h0.first (by omega) (by omega) (by omega) hst hp (fun tv bs cs W' hn hbs hcs h1=>?_)⟩
 refine h1.later (by omega) (by omega) (by omega) (fun W h=>(hst W h).2) hm hn hbs hcs (.inl ⟨rfl,fun k W2 h2=>?_⟩)
 refine h2.later (by omega) (by omega) (by omega) (fun W h=>(hst W h).2) hm hn hbs hcs (.inr ⟨rfl,fun k W3 cs3 h3 hk=>?_⟩)
 exact h3.last (by omega) (fun w' hb=>⟨rfl,hb⟩) (fun W h=>(hst W h).2) hk
end Go.Proofs.YtlefjidbpjkhlaaGreat
