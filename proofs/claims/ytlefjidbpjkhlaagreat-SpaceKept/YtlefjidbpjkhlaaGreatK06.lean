import Derived.Test.YtlefjidbpjkhlaaGreatK02
import Derived.Test.YtlefjidbpjkhlaaGreatK05
import Derived.Deep.RegionHeld3
set_option maxRecDepth 100000
set_option maxHeartbeats 16000000
namespace Go.Proofs.YtlefjidbpjkhlaaGreat
variable {w w':World}
variable {B K K' c j k o p x:Nat}
variable {mv:Value}
variable {X Y Y' Z Z':Nat->Prop}
variable {zs:List Int}
variable {hi mi:Int}
open Go.RowKit
def Jb (w:World) (j c:Nat) (fr bl life seq used:Int) (mv:Value):Prop:=w.heap[j]?=some (.cells #[.pointer (some ⟨c,0,none⟩),.int .i64 fr,.int .i64 bl,.int .i64 life,.int .i64 seq,.int .i64 used,mv] 151 (0,0))
theorem Jb.lt{fr bl life seq used:Int}(h:Jb w j c fr bl life seq used mv):j<w.heap.size:=(Array.getElem?_eq_some_iff.1 h).1
theorem Jb.cell{fr bl life seq used:Int}(h:Jb w j c fr bl life seq used mv)(t:Nat):w.cell? ⟨j,t,none⟩=#[.pointer (some ⟨c,0,none⟩),.int .i64 fr,.int .i64 bl,.int .i64 life,.int .i64 seq,.int .i64 used,mv][t]?:=by
 unfold Jb at h
 simp[World.cell?,h]
theorem Jb.below{fr bl life seq used:Int}(h:Jb w j c fr bl life seq used mv)(hb:Below B w w')(hj:j<B):Jb w' j c fr bl life seq used mv:=(hb.block j hj).trans h
theorem Jb.frozen{fr bl life seq used:Int}(h:Jb w j c fr bl life seq used mv)(t:Nat):w.frozen? ⟨j,t,none⟩=false:=by
 unfold Jb at h
 simp[World.frozen?,h]
theorem jmost_any(fr bl:Int)(lo:16<=bl)(hi:bl<=524288)(w:World):Calls Tryz.prog 79 #[.agg #[.int .i64 fr,.int .i64 bl]] w fun e w'=>e=.returned (.int .i64 (bl / 2-4))/\Below w.heap.size w w':=by
 go_enter Tryz.func79,Tryz.ntmps79
 go_wp2
 go_ret
 exact⟨rfl,(Below.refl _ _).alloc (Nat.le_refl _) _⟩
theorem jlogRoom_any(fr bl:Int)(lo:16<=bl)(hi:bl<=524288)(w:World):Calls Tryz.prog 135 #[.agg #[.int .i64 fr,.int .i64 bl]] w fun e w'=>e=.returned (.int .i64 (bl-1))/\Below w.heap.size w w':=by
 go_enter Tryz.func135,Tryz.ntmps135
 go_wp2
 go_ret
 exact⟨rfl,(Below.refl _ _).alloc (Nat.le_refl _) _⟩
theorem jlogBlock_any(fr bl i:Int)(lo:0<=fr)(hi:fr<=524288)(i0:0<=i)(i1:i<=524288)(w:World):Calls Tryz.prog 137 #[.agg #[.int .i64 fr,.int .i64 bl],.int .i64 i] w fun e w'=>e=.returned (.int .i64 (fr+1+i))/\Below w.heap.size w w':=by
 go_enter Tryz.func137,Tryz.ntmps137
 go_wp2
 go_ret
 exact⟨rfl,(Below.refl _ _).alloc (Nat.le_refl _) _⟩
theorem jhas_any(fr bl at_:Int)(f0:0<=fr)(f1:fr<=524288)(lo:0<=bl)(hi:bl<=524288)(w:World):Calls Tryz.prog 177 #[.agg #[.int .i64 fr,.int .i64 bl],.int .i64 at_] w fun e w'=>e=.returned (.bool (decide (fr<=at_/\at_<fr+bl)))/\Below w.heap.size w w':=by
 have FIN:=hid ((Below.refl w.heap.size w).alloc (Nat.le_refl _) (.cells #[.int .i64 fr,.int .i64 bl] 148))
 go_enter Tryz.func177,Tryz.ntmps177
 by_cases h1:fr<=at_
 ·by_cases h2:at_<fr+bl
  ·go_wp2
   go_ret
   exact⟨by simp[h1,h2],FIN.out⟩
  ·go_wp2
   go_ret
   exact⟨by simp[h2],FIN.out⟩
 ·go_wp2
  go_ret
  exact⟨by simp;omega,FIN.out⟩
def mostC (bl:Int):Int:=if bl<16\/524288<bl then 40 else 0
theorem jMost_any(bl:Int)(w:World):Calls Tryz.prog 194 #[.int .i64 bl] w fun e w'=>e=.returned (.tuple #[.int .i64 (if bl<16\/524288<bl then 0 else bl / 2-4),.int .i64 (mostC bl)])/\Below w.heap.size w w':=by
 unfold mostC
 have FIN:=hid (Below.refl w.heap.size w)
 by_cases h1:bl<16
 ·simp only[h1,true_or,if_true]
  go_enter Tryz.func194,Tryz.ntmps194
  go_wp2
  go_ret2
  exact⟨rfl,FIN.out⟩
 ·by_cases h2:524288<bl
  ·simp only[h2,or_true,if_true]
   go_enter Tryz.func194,Tryz.ntmps194
   go_wp2
   go_ret2
   exact⟨rfl,FIN.out⟩
  ·simp only[h1,h2,or_self,if_false]
   have H:=hid (jmost_any 0 bl (by omega) (by omega) w)
   go_enter Tryz.func194,Tryz.ntmps194
   go_wp2_with fail
   refine Calls.mono H.out ?_
   rintro e w1 ⟨rfl,b1⟩
   have B1:=hid b1
   clear b1
   go_wp2
   go_ret2
   exact⟨rfl,B1.out⟩
theorem jask_any{fr bl life seq used:Int}{img:List Int}{puts:List (Nat×List Int)}{fu:Int}{off:Bool}{nb:Nat}(hJ:Jb w j c fr bl life seq used mv)(hc:w.cell? ⟨c,0,none⟩=some (.pointer (some ⟨p,0,none⟩)))(hD:Dk X w p img puts fu off nb) :
  Calls Tryz.prog 76 #[.pointer (some ⟨j,0,none⟩)] w fun e w'=>e=.returned (.int .i64 (if off then 24 else 0))/\Below w.heap.size w w':=by
 have H:=hid (On_any hD)
 have j0:=hJ.cell 0
 simp at j0
 clear hJ hD
 go_enter Tryz.func76,Tryz.ntmps76
 go_wp2_with fail
 refine Calls.mono H.out ?_
 rintro e w1 ⟨rfl,b1⟩
 have B1:=hid b1
 clear b1 j0 hc
 cases off
 ·go_wp2
  go_ret
  exact⟨rfl,B1.out⟩
 ·go_wp2
  go_ret
  exact⟨rfl,B1.out⟩
open Go.RowKit
def placeC (nb:Nat) (fr bl:Int):Int:=if bl<16\/524288<bl then 40 else if fr<0\/(nb:Int)-bl<fr then 40 else 0
theorem jcheckPlace_any{fr bl life seq used:Int}{img:List Int}{puts:List (Nat×List Int)}{fu:Int}{off:Bool}{nb:Nat}(hJ:Jb w j c fr bl life seq used mv)(hc:w.cell? ⟨c,0,none⟩=some (.pointer (some ⟨p,0,none⟩)))(hcs:c<w.heap.size)(hD:Dk X w p img puts fu off nb)(hnb:nb<=524288) :
  Calls Tryz.prog 162 #[.pointer (some ⟨j,0,none⟩)] w fun e w'=>e=.returned (.int .i64 (placeC nb fr bl))/\Below w.heap.size w w':=by
 have H:=hid (jMost_any bl w)
 have j2:=hJ.cell 2
 simp at j2
 have HJ:=hid hJ
 have HD:=hid hD
 have HC:=hid (And.intro hc hcs)
 clear hJ hD hc hcs
 unfold placeC
 unfold mostC at H
 by_cases h1:bl<16\/524288<bl
 ·simp only[if_pos h1]at H ⊢
  clear h1
  go_enter Tryz.func162,Tryz.ntmps162
  go_wp2_with fail
  refine Calls.mono H.out ?_
  rintro e w1 ⟨rfl,b1⟩
  have B1:=hid b1
  clear b1 j2 H
  go_wp2
  go_ret
  exact⟨rfl,B1.out⟩
 ·simp only[if_neg h1]at H ⊢
  have i1:16<=bl:=by omega
  have i2:bl<=524288:=by omega
  clear h1
  obtain⟨code,hcode⟩:∃code:Int,code=if fr<0\/(nb:Int)-bl<fr then 40 else 0:=⟨_,rfl⟩
  rw[<- hcode]
  have HCd:=hid hcode
  clear hcode
  go_enter Tryz.func162,Tryz.ntmps162
  go_wp2_with fail
  refine Calls.mono H.out ?_
  rintro e w1 ⟨rfl,b1⟩
  have B1:=hid b1
  have hJ1:=HJ.out.below b1 HJ.out.lt
  have j0:=hJ1.cell 0
  have j1:=hJ1.cell 1
  have j2':=hJ1.cell 2
  simp at j0 j1 j2'
  have c0:=(b1.cell (p:=⟨c,0,none⟩) HC.out.2).trans HC.out.1
  have HB:=hid (Blocks_any (HD.out.below b1))
  clear b1 j2 hJ1 H
  go_wp2_with fail
  refine Calls.mono HB.out ?_
  rintro e w2 ⟨rfl,hw2⟩
  rw[hw2]
  clear hw2 HB
  by_cases h2:fr<0
  ·have hc:=HCd.out
   rw[if_pos (.inl h2)]at hc
   subst hc
   clear HCd
   go_wp2_with fail
   go_region
   all_goals
    go_wp2
    go_ret
    exact⟨rfl,by simpa using B1.out.drew⟩
  ·obtain⟨f,rfl⟩:∃f:Nat,fr=(f:Int):=⟨fr.toNat,by omega⟩
   clear h2
   have hw:IntKind.i64.wrap ((nb:Int)-bl)=(nb:Int)-bl:=by rw[IntKind.wrap_i64];omega
   by_cases h3:(nb:Int)-bl<f
   ·have hc:=HCd.out
    rw[if_pos (.inr h3)]at hc
    subst hc
    clear HCd HJ HD HC j0 c0
    go_wp2_with fail
    go_region_held3 (fun w'=>w'.cell? ⟨j,1,none⟩=some (.int .i64 (f:Int))/\w'.cell? ⟨j,2,none⟩=some (.int .i64 bl)) (first | (exact⟨by assumption,by assumption⟩) | go_keep) (fail)
    go_wp2
    go_ret
    exact⟨rfl,by simpa using B1.out.drew⟩
   ·have hc:=HCd.out
    rw[if_neg (by omega)]at hc
    subst hc
    clear HCd HJ HD HC j0 c0
    go_wp2_with fail
    go_region_held3 (fun w'=>w'.cell? ⟨j,1,none⟩=some (.int .i64 (f:Int))/\w'.cell? ⟨j,2,none⟩=some (.int .i64 bl)) (first | (exact⟨by assumption,by assumption⟩) | go_keep) (fail)
    go_wp2
    go_ret
    exact⟨rfl,by simpa using B1.out.drew⟩
open Go.RowKit
def homeC (nb:Nat) (fr bl at_:Int):Int:=if at_<0\/(nb:Int)<=at_\/(fr<=at_/\at_<fr+bl) then 42 else 0
theorem jcheckHome_any{fr bl life seq used:Int}{img:List Int}{puts:List (Nat×List Int)}{fu:Int}{off:Bool}{nb:Nat}(hJ:Jb w j c fr bl life seq used mv)(hc:w.cell? ⟨c,0,none⟩=some (.pointer (some ⟨p,0,none⟩)))(hD:Dk X w p img puts fu off nb)(hf:0<=fr)(hf1:fr<=524288)(hb0:0<=bl)(hb:bl<=524288)(at_:Int) :
  Calls Tryz.prog 134 #[.pointer (some ⟨j,0,none⟩),.int .i64 at_] w fun e w'=>e=.returned (.int .i64 (homeC nb fr bl at_))/\Below w.heap.size w w':=by
 have HB:=hid (Blocks_any hD)
 have HH:=hid (fun w=>jhas_any fr bl at_ hf hf1 hb0 hb w)
 obtain⟨code,hcode⟩:∃code:Int,code=homeC nb fr bl at_:=⟨_,rfl⟩
 rw[<- hcode]
 unfold homeC at hcode
 have HCd:=hid hcode
 have j0:=hJ.cell 0
 have j1:=hJ.cell 1
 have j2:=hJ.cell 2
 simp at j0 j1 j2
 clear hJ hD hcode
 go_enter Tryz.func134,Tryz.ntmps134
 go_wp2_with fail
 refine Calls.mono HB.out ?_
 rintro e w2 ⟨rfl,hw2⟩
 rw[hw2]
 clear hw2 HB j0 hc
 by_cases h2:at_<0
 ·have hc:=HCd.out
  rw[if_pos (.inl h2)]at hc
  subst hc
  clear HCd
  go_wp2
  go_ret
  exact⟨rfl,Below.refl _ _⟩
 ·by_cases h3:(nb:Int)<=at_
  ·have hc:=HCd.out
   rw[if_pos (.inr (.inl h3))]at hc
   subst hc
   clear HCd
   go_wp2
   go_ret
   exact⟨rfl,Below.refl _ _⟩
  ·have HH2:=hid (HH.out w)
   clear HH
   by_cases h4:fr<=at_/\at_<fr+bl
   ·have hc:=HCd.out
    rw[if_pos (.inr (.inr h4))]at hc
    subst hc
    simp only[decide_eq_true h4]at HH2
    clear HCd h4
    go_wp2_with fail
    refine Calls.mono HH2.out ?_
    rintro e w3 ⟨rfl,b3⟩
    have B3:=hid b3
    clear b3 HH2
    go_wp2
    go_ret
    exact⟨rfl,B3.out⟩
   ·have hc:=HCd.out
    rw[if_neg (by omega)]at hc
    subst hc
    simp only[decide_eq_false h4]at HH2
    clear HCd h4
    go_wp2_with fail
    refine Calls.mono HH2.out ?_
    rintro e w3 ⟨rfl,b3⟩
    have B3:=hid b3
    clear b3 HH2
    go_wp2
    go_ret
    exact⟨rfl,B3.out⟩
theorem jtakesMore_any{fr bl life seq used:Int}(hJ:Jb w j c fr bl life seq used mv):Calls Tryz.prog 80 #[.pointer (some ⟨j,0,none⟩)] w fun e w'=>e=.returned (.bool (decide (seq<1099511627776)))/\w'=w:=by
 have j4:=hJ.cell 4
 simp at j4
 clear hJ
 go_enter Tryz.func80,Tryz.ntmps80
 go_wp2
 go_ret
 exact⟨rfl,rfl⟩
open Go.RowKit
def Turn (k:Nat) (Q:Ending->World->Prop):List (Nat×Value)->World->Prop
 | [],w=>Q (.returned (.int .i64 0)) w
 | f :: fs,w=>Calls Tryz.prog f.1 #[f.2] w fun e w'=>∃code:Int,e=.returned (.int .i64 code)/\(code≠0->Q e w')/\(code=0->w'.heap[k]?=w.heap[k]?/\Turn k Q fs w')
theorem cell_block(h:w'.heap[k]?=w.heap[k]?)(t:Nat):w'.cell? ⟨k,t,none⟩=w.cell? ⟨k,t,none⟩:=by simp[World.cell?,h]
theorem inTurn_any{Q:Ending->World->Prop}(fs:List (Nat×Value))(hn:fs.length<=16)(hf:∀(i:Nat) (g:Nat×Value),fs[i]?=some g->g.1=124\/g.1=125\/g.1=126\/g.1=127\/g.1=120\/g.1=121\/g.1=122\/g.1=123\/g.1=76\/g.1=162\/g.1=171\/g.1=172\/g.1=204)(w:World)(hc:∀i f,fs[i]?=some f->w.cell? ⟨k,i,none⟩=some (.func (.func f.1) #[f.2] #[]))(H:Turn k Q fs w) :
  Calls Tryz.prog 119 #[.slice (some ⟨k,0,none⟩) fs.length fs.length] w Q:=by
 have HF:=hid hf
 clear hf
 have HC:=hid hc
 have HT:=hid H
 clear hc H
 generalize hL:fs.length=n at *
 go_enter Tryz.func119,Tryz.ntmps119
 go_wp2_with fail
 go_loopw [8] (fun i wr=>∃q:Nat,q<=n/\i=.int .i64 (q:Int)/\(∀i f,fs[i]?=some f->wr.cell? ⟨k,i,none⟩=some (.func (.func f.1) #[f.2] #[]))/\Turn k Q (fs.drop q) wr) (fun i _=>n-(intOf i).toNat)
 case atStart=>exact⟨0,Nat.zero_le _,rfl,HC.out,HT.out⟩
 case round=>
  clear HC HT
  obtain⟨q,hq,rfl,hcl,hT⟩:=hrel
  by_cases hqn:q<n
  ·have hqL:q<fs.length:=by omega
   have hd:fs.drop q=fs[q] :: fs.drop (q+1):=List.drop_eq_getElem_cons hqL
   have e0:=hcl q fs[q] (List.getElem?_eq_getElem hqL)
   have hfq:=HF.out q fs[q] (List.getElem?_eq_getElem hqL)
   rw[hd]at hT
   have HT:=hid hT
   have HC:=hid hcl
   have hqn':(q:Int)<(n:Int):=by omega
   clear hT hcl hd
   generalize fs[q]=g at *
   obtain⟨f,r⟩:=g
   simp only at e0 hfq
   have HT2:Hid (Calls Tryz.prog f #[r] wr fun e w'=>∃code:Int,e=.returned (.int .i64 code)/\(code≠0->Q e w')/\(code=0->w'.heap[k]?=wr.heap[k]?/\Turn k Q (fs.drop (q+1)) w')):=HT.out
   clear HT HF
   rcases hfq with rfl | rfl | rfl | rfl | rfl | rfl | rfl | rfl | rfl | rfl | rfl | rfl | rfl
   all_goals
    go_wp2_with fail
    refine Calls.mono HT2.out ?_
    rintro e w2 ⟨code,rfl,h1,h2⟩
    have H1:=hid h1
    have H2:=hid h2
    clear h1 h2 HT2 e0
    by_cases hz:code=0
    ·have H3:=hid (H2.out hz)
     clear H1 H2
     subst hz
     go_wp2_with fail
     go_roundw
     case rel=>exact⟨q+1,by omega,by go_num,fun i f hi=>(cell_block H3.out.1 i).trans (HC.out i f hi),H3.out.2⟩
     case measure=>simp[intOf];omega
    ·go_wp2
     first | exact H1.out hz | (go_ret;exact H1.out hz)
  ·have hqn':¬(q:Int)<(n:Int):=by omega
   have hq2:fs.drop q=[]:=List.drop_eq_nil_of_le (by omega)
   rw[hq2]at hT
   have HT:Hid (Q (.returned (.int .i64 0)) wr):=hT
   clear hT hcl HF
   go_wp2
   first | exact HT.out | (go_ret;exact HT.out)
open Go.RowKit
def imgB (im:List Int) (i:Nat):List Int:=(im.drop (512 * i)).take 512
theorem get_splice{L cs:List Int}(h:o+cs.length<=L.length)(j:Nat):(splice L o cs)[j]?=if j<o then L[j]? else if j<o+cs.length then cs[j-o]? else L[j]?:=by
 have hl:(L.take o).length=o:=by simp;omega
 unfold splice
 by_cases h1:j<o
 ·rw[if_pos h1,List.getElem?_append_left (by omega),List.getElem?_take_of_lt h1]
 ·rw[if_neg h1,List.getElem?_append_right (by omega),hl]
  by_cases h2:j<o+cs.length
  ·rw[if_pos h2,List.getElem?_append_left (by omega)]
  ·rw[if_neg h2,List.getElem?_append_right (by omega),List.getElem?_drop]
   congr 1
   omega
theorem get_imgB(L:List Int)(i t:Nat):(imgB L i)[t]?=if t<512 then L[512 * i+t]? else none:=by
 unfold imgB
 by_cases h:t<512
 ·rw[if_pos h,List.getElem?_take_of_lt h,List.getElem?_drop]
 ·rw[if_neg h]
  exact List.getElem?_eq_none (by simp;omega)
theorem imgB_splice{im d:List Int}{nb:Nat}(i:Nat)(hlen:im.length=512 * nb)(hd:d.length=512)(hx:x<nb):imgB (splice im (x * 512) d) i=if i=x then d else imgB im i:=by
 apply List.ext_getElem?
 intro t
 rw[get_imgB]
 by_cases ht:t<512
 ·rw[if_pos ht,get_splice (by omega)]
  by_cases e:i=x
  ·subst e
   rw[if_neg (by omega),if_pos (by omega),if_pos rfl]
   congr 1
   omega
  ·rw[if_neg e,get_imgB,if_pos ht]
   by_cases h1:i<x
   ·rw[if_pos (by omega)]
   ·rw[if_neg (by omega),if_neg (by omega)]
 ·rw[if_neg ht]
  by_cases e:i=x
  ·rw[if_pos e];exact (List.getElem?_eq_none (by omega)).symm
  ·rw[if_neg e,get_imgB,if_neg ht]
def Fit (nb:Nat) (puts:List (Nat×List Int)):Prop:=∀q∈puts,q.1<nb/\q.2.length=512/\Pl.isB q.2
theorem flush_seen{nb:Nat}(puts:List (Nat×List Int)):∀(img:List Int),img.length=512 * nb->Fit nb puts->imgB (flushZ img puts) x=seenZ img puts x:=by
 induction puts with
 | nil=>intro img _ _;rfl
 | cons q r ih=>
  intro img hl hf
  obtain⟨f1,f2,_⟩:=hf q (by simp)
  have e1:flushZ img (q :: r)=flushZ (splice img (q.1 * 512) q.2) r:=rfl
  rw[e1,ih _ (by rw[length_splice _ _ _ (by omega)];exact hl) (fun q' h=>hf q' (by simp[h]))]
  have e2:seenZ (splice img (q.1 * 512) q.2) r x=r.foldl (fun s q=>if q.1=x then q.2 else s) (imgB (splice img (q.1 * 512) q.2) x):=rfl
  have e3:seenZ img (q :: r) x=r.foldl (fun s q=>if q.1=x then q.2 else s) (if q.1=x then q.2 else imgB img x):=rfl
  rw[e2,e3,imgB_splice x hl f2 f1]
  congr 1
  by_cases e:x=q.1
  ·rw[if_pos e,if_pos e.symm]
  ·rw[if_neg e,if_neg (fun h=>e h.symm)]
theorem Dk.fit{img:List Int}{puts:List (Nat×List Int)}{fu:Int}{off:Bool}{nb:Nat}(h:Dk X w p img puts fu off nb):Fit nb puts:=by
 obtain⟨ds,gL,cL,pv,mp,rfl,h⟩:=h
 intro q hq
 obtain⟨d,hd,rfl⟩:=List.mem_map.1 hq
 exact⟨(h.dat d hd).2.2.2.2,(h.dat d hd).1.len,(h.dat d hd).2.1⟩
theorem mem_holdL{room:Nat}{l:List (Int×List Int)}{x:Int}{q:Int×List Int}(h:q∈holdL room l x zs):(q∈l/\q.1≠x)\/q=(x,zs):=by
 have h2:q∈l.filter (fun q=>q.1≠x)++[(x,zs)]:=by
  unfold holdL at h
  split at h
  ·exact List.mem_of_mem_tail h
  ·exact h
 rcases List.mem_append.1 h2 with h2 | h2
 ·obtain⟨q1,q2⟩:=List.mem_filter.1 h2
  exact .inl ⟨q1,by simpa using q2⟩
 ·exact .inr (by simpa using h2)
theorem Good.read{l:List (Int×List Int)}{img:List Int}{puts:List (Nat×List Int)}{nb:Nat}(h:Good l img puts nb)(room:Nat)(off:Bool)(x:Int):Good (readL room l (readR img puts off nb x) x) img puts nb:=by
 intro q hq
 unfold readL at hq
 split at hq
 ·rename_i hz
  have hr:0<=x/\x<nb/\(readR img puts off nb x).2=seenZ img puts x.toNat:=by
   unfold readR at hz ⊢
   split at hz
   ·simp at hz
   ·split at hz
    ·simp at hz
    ·rw[if_neg ‹_›,if_neg ‹_›]
     exact⟨by omega,by omega,rfl⟩
  rcases mem_holdL hq with q1 | rfl
  ·exact h q q1.1
  ·exact hr
 ·exact h q hq
theorem seen_push(img:List Int)(puts:List (Nat×List Int))(y:Nat)(zs:List Int)(x:Nat):seenZ img (puts++[(y,zs)]) x=if y=x then zs else seenZ img puts x:=by
 unfold seenZ
 rw[List.foldl_append]
 rfl
theorem Good.write{l:List (Int×List Int)}{img:List Int}{puts:List (Nat×List Int)}{nb:Nat}(h:Good l img puts nb)(room:Nat){x:Int}(h0:0<=x)(h1:x<nb)(zs:List Int):Good (holdL room l x zs) img (puts++[(x.toNat,zs)]) nb:=by
 intro q hq
 rcases mem_holdL hq with ⟨q1,q2⟩ | rfl
 ·obtain⟨a,b,c⟩:=h q q1
  refine⟨a,b,?_⟩
  rw[seen_push,if_neg (by omega)]
  exact c
 ·exact⟨h0,h1,by rw[seen_push,if_pos rfl]⟩
theorem Good.flush{l:List (Int×List Int)}{img:List Int}{puts:List (Nat×List Int)}{nb:Nat}(h:Good l img puts nb)(hl:img.length=512 * nb)(hf:Fit nb puts):Good l (flushZ img puts) [] nb:=by
 intro q hq
 obtain⟨a,b,c⟩:=h q hq
 refine⟨a,b,?_⟩
 rw[c,<- flush_seen puts img hl hf]
 rfl
theorem Good.nil(img:List Int)(puts:List (Nat×List Int))(nb:Nat):Good [] img puts nb:=fun q hq=>by cases hq
open Go.RowKit
structure Pd where
 img:List Int
 puts:List (Nat×List Int)
 fu:Int
 off:Bool
def Pd.write (d:Pd) (x:Nat) (zs:List Int):Int×Pd:=if d.off=false/\d.fu≠0 then (0,⟨d.img,d.puts++[(x,zs)],burnF d.fu,false⟩) else (24,⟨d.img,d.puts,d.fu,true⟩)
def Pd.flush (d:Pd):Int×Pd:=if d.off=false/\d.fu≠0 then (0,⟨flushZ d.img d.puts,[],burnF d.fu,false⟩) else (24,⟨d.img,d.puts,d.fu,true⟩)
def Pd.read (d:Pd) (x:Nat):List Int:=seenZ d.img d.puts x
def Pd.Fits (d:Pd) (nb:Nat):Prop:=d.img.length=512 * nb/\Pl.isB d.img/\Fit nb d.puts
def Cq (Z:Nat->Prop) (w:World) (c p room nb K:Nat) (d:Pd):Prop :=
 ∃X Y hi mi l,CD X Y w c p room hi mi l d.img d.puts d.fu d.off nb/\(∀k,X k->Z k)/\(∀k,Y k->Z k)/\(∀k,Y k->k<w.heap.size)/\Good l d.img d.puts nb/\(0<=hi/\hi<=K)/\(0<=mi/\mi<=K)
def Gr (Z Z':Nat->Prop) (w:World):Prop:=∀k,k<w.heap.size->Z' k->Z k
theorem Gr.trans{Z'':Nat->Prop}(h:Gr Z Z' w)(k:Gr Z' Z'' w')(hs:w.heap.size<=w'.heap.size):Gr Z Z'' w:=fun x hx hz=>h x hx (k x (Nat.lt_of_lt_of_le hx hs) hz)
theorem Gr.refl(Z:Nat->Prop)(w:World):Gr Z Z w:=fun _ _ h=>h
theorem Cq.mk'{room nb:Nat}{l:List (Int×List Int)}{d:Pd}{X':Nat->Prop}(h:CD X' Y' w' c p room hi mi l d.img d.puts d.fu d.off nb)(hg:Grown X Y X' Y' w)(hx:∀k,X k->Z k)(hy:∀k,Y k->Z k)(hl:Good l d.img d.puts nb)(h1:0<=hi/\hi<=K)(h2:0<=mi/\mi<=K) :
  ∃Z',Cq Z' w' c p room nb K d/\Gr Z Z' w:=by
 refine⟨fun k=>X' k\/Y' k,⟨X',fun k=>Y' k/\k<w'.heap.size,hi,mi,l,⟨h.ca.cut,h.dk,fun k q=>h.dj k q.1⟩,fun k q=>.inl q,fun k q=>.inr q.1,fun k q=>q.2,hl,h1,h2⟩,fun k hk q=>?_⟩
 rcases q with q | q
 ·exact hx k ((hg k hk).1 q)
 ·exact hy k ((hg k hk).2 q)
theorem Cq.fits{room nb:Nat}{d:Pd}(h:Cq Z w c p room nb K d):d.Fits nb/\1<=nb/\nb<=524288:=by
 obtain⟨X,Y,hi,mi,l,h1,_⟩:=h
 have hf:=h1.dk.fit
 obtain⟨ds,gL,cL,pv,mp,e,h2⟩:=h1.dk
 exact⟨⟨h2.own.len,h2.isb,hf⟩,h2.lo,h2.hi⟩
theorem Cq.mono{room nb:Nat}{d:Pd}(h:Cq Z w c p room nb K d)(hz:∀k,Z k->Z' k)(hK:K<=K'):Cq Z' w c p room nb K' d:=by
 obtain⟨X,Y,hi,mi,l,h1,h2,h3,h4,h5,h6,h7⟩:=h
 exact⟨X,Y,hi,mi,l,h1,fun k q=>hz k (h2 k q),fun k q=>hz k (h3 k q),h4,h5,⟨h6.1,by omega⟩,⟨h7.1,by omega⟩⟩
theorem Cq.keep{room nb:Nat}{d:Pd}(h:Cq Z w c p room nb K d)(hk:∀x,Z x->x<w.heap.size->w'.heap[x]?=w.heap[x]?)(hs:w.heap.size<=w'.heap.size):Cq Z w' c p room nb K d:=by
 obtain⟨X,Y,hi,mi,l,h1,h2,h3,h4,h5,h6,h7⟩:=h
 exact⟨X,Y,hi,mi,l,⟨h1.ca.keep (fun k q hq=>hk k (h3 k q) hq),h1.dk.keep (fun k q hq=>hk k (h2 k q) hq),h1.dj⟩,h2,h3,fun k q=>Nat.lt_of_lt_of_le (h4 k q) hs,h5,h6,h7⟩
theorem Cq.but{room nb:Nat}{d:Pd}(h:Cq Z w c p room nb K d)(hb:But Y w w')(hx:∀x,x<w.heap.size->Z x->¬Y x):Cq Z w' c p room nb K d:=h.keep (fun x h1 h2=>hb.block x h2 (hx x h2 h1)) hb.size
theorem Cq.below{room nb:Nat}{d:Pd}(h:Cq Z w c p room nb K d)(hb:Below w.heap.size w w'):Cq Z w' c p room nb K d:=h.keep (fun x _ h2=>hb.block x h2) hb.size
theorem Cq.c0{room nb:Nat}{d:Pd}(h:Cq Z w c p room nb K d):w.cell? ⟨c,0,none⟩=some (.pointer (some ⟨p,0,none⟩))/\c<w.heap.size/\Z c:=by
 obtain⟨X,Y,hi,mi,l,h1,h2,h3,_⟩:=h
 obtain⟨v2,v3,hg,hYc,_⟩:=h1.ca.cg
 exact⟨hg.cell 0,hg.lt,h3 c hYc⟩
theorem Cq.dk{room nb:Nat}{d:Pd}(h:Cq Z w c p room nb K d):Dk Z w p d.img d.puts d.fu d.off nb:=by
 obtain⟨X,Y,hi,mi,l,h1,h2,h3,_⟩:=h
 exact h1.dk.mono h2
theorem Cq.write{room nb:Nat}{d:Pd}(h:Cq Z w c p room nb K d)(hl:d.puts.length<=1073741823)(x:Nat)(hx:x<nb)(ad:Option Addr)(cp:Nat)(zs:List Int)(hR:RdN Z w ad 512 zs) :
  Calls Tryz.prog 178 #[.pointer (some ⟨c,0,none⟩),.int .i64 (x:Int),.slice ad 512 cp] w fun e w'=>e=.returned (.int .i64 (d.write x zs).1)/\(∃Z',Cq Z' w' c p room nb K (d.write x zs).2/\Gr Z Z' w)/\But Z w w':=by
 obtain⟨X,Y,hi,mi,l,h1,h2,h3,h4,h5,h6,h7⟩:=h
 have hR':RdN X w ad 512 zs:=hR.mono (fun k _ q=>h2 k q)
 by_cases hd:d.off=false/\d.fu≠0
 ·have hz:writeC d.off d.fu nb (x:Int) 512=0:=by
   unfold writeC burnC
   rw[hd.1,if_neg (by simp),if_neg (by omega),if_neg (by simp),if_neg hd.2]
  refine Calls.mono (CWrite_ok h1 hl (x:Int) ad 512 cp zs hR' hz) ?_
  rintro e w' ⟨rfl,⟨X',Y',q1,q2⟩,b⟩
  have e1:d.write x zs=(0,⟨d.img,d.puts++[(x,zs)],burnF d.fu,false⟩):=by unfold Pd.write;rw[if_pos hd]
  have e2:burnO d.fu d.off=false:=by unfold burnO;rw[if_neg hd.2,hd.1]
  rw[e2]at q1
  rw[e1]
  refine⟨rfl,Cq.mk' (d:=⟨d.img,d.puts++[(x,zs)],burnF d.fu,false⟩) q1 q2 h2 h3 (h5.write room (by omega) (by omega) zs) h6 h7,b.mono (fun k _ q=>q.elim (h2 k) (h3 k))⟩
 ·have e1:d.write x zs=(24,⟨d.img,d.puts,d.fu,true⟩):=by unfold Pd.write;rw[if_neg hd]
  have hz:writeC d.off d.fu nb (x:Int) 512=24/\writeF d.off d.fu nb (x:Int) 512=d.fu/\writeO d.off d.fu nb (x:Int) 512=true:=by
   unfold writeC writeF writeO burnC burnF burnO
   cases ho:d.off
   ·have hf:d.fu=0:=Classical.byContradiction fun q=>hd ⟨ho,q⟩
    rw[hf]
    refine⟨?_,?_,?_⟩
    ·rw[if_neg (by simp),if_neg (by omega),if_neg (by simp)];rfl
    ·rw[if_pos ⟨rfl,by omega,rfl⟩];rfl
    ·rw[if_pos ⟨rfl,by omega,rfl⟩];rfl
   ·exact⟨rfl,by simp,by simp⟩
  have H:=CWrite_bad h1 hl (x:Int) ad 512 cp zs hR' (by rw[hz.1];decide)
  rw[hz.1,hz.2.1,hz.2.2]at H
  refine Calls.mono H ?_
  rintro e w' ⟨rfl,⟨X',Y',q1,q2⟩,b⟩
  rw[e1]
  exact⟨rfl,Cq.mk' (d:=⟨d.img,d.puts,d.fu,true⟩) q1 q2 h2 h3 h5 h6 h7,b.mono (fun k _ q=>q.elim (h2 k) (h3 k))⟩
theorem Cq.flush{room nb:Nat}{d:Pd}(h:Cq Z w c p room nb K d)(hl:d.puts.length<=1073741824) :
  Calls Tryz.prog 121 #[.pointer (some ⟨c,0,none⟩)] w fun e w'=>e=.returned (.int .i64 d.flush.1)/\(∃Z',Cq Z' w' c p room nb K d.flush.2/\Gr Z Z' w)/\But Z w w':=by
 have hft:=h.fits
 obtain⟨X,Y,hi,mi,l,h1,h2,h3,h4,h5,h6,h7⟩:=h
 obtain⟨v2,v3,hg,hYc,_⟩:=h1.ca.cg
 have HF:=Flush_any h1.dk hl
 have HR:Calls Tryz.prog 116 #[.pointer (some ⟨p,0,none⟩)] w fun e w'=>∃x,e=.returned (.int .i64 x)/\(x=d.flush.1/\(∃Z',Cq Z' w' c p room nb K d.flush.2/\Gr Z Z' w)/\But Z w w'):=by
  refine Calls.mono HF ?_
  rintro e w' ⟨rfl,d1,b1⟩
  have hcd:∀d':Pd,Dk (fun x=>X x\/w.heap.size<=x) w' p d'.img d'.puts d'.fu d'.off nb->Good l d'.img d'.puts nb->∃Z',Cq Z' w' c p room nb K d'/\Gr Z Z' w:=fun d' q1 q2=>by
   refine Cq.mk' (X:=X) (Y:=Y) (X':=fun x=>X x\/w.heap.size<=x) (Y':=fun k=>Y k/\k<w.heap.size) (hi:=hi) (mi:=mi) (l:=l) ⟨h1.ca.cut.but b1 (fun k q=>h1.dj k q.1),q1,fun k q q'=>?_⟩ (fun k hk=>⟨fun q=>?_,fun q=>q.1⟩) h2 h3 q2 h6 h7
   ·rcases q' with q' | q'
    ·exact h1.dj k q.1 q'
    ·omega
   ·rcases q with q | q
    ·exact q
    ·omega
  refine⟨flushC d.off d.fu,rfl,?_,?_,b1.mono (fun k _ q=>h2 k q)⟩
  ·unfold flushC Pd.flush burnC
   cases ho:d.off
   ·by_cases hf:d.fu=0
    ·simp[hf]
    ·simp[hf]
   ·simp
  ·by_cases hd:d.off=false/\d.fu≠0
   ·have e1:d.flush=(0,⟨flushZ d.img d.puts,[],burnF d.fu,false⟩):=by unfold Pd.flush;rw[if_pos hd]
    have e2:flushC d.off d.fu=0:=by unfold flushC burnC;rw[hd.1];simp[hd.2]
    have e3:afterF d.off d.fu=burnF d.fu:=by unfold afterF;rw[hd.1];rfl
    have e4:afterO d.off d.fu=false:=by unfold afterO burnO;rw[hd.1];simp[hd.2]
    rw[e2,if_pos rfl,if_pos rfl,e3,e4]at d1
    rw[e1]
    exact hcd ⟨flushZ d.img d.puts,[],burnF d.fu,false⟩ d1 (h5.flush hft.1.1 hft.1.2.2)
   ·have e1:d.flush=(24,⟨d.img,d.puts,d.fu,true⟩):=by unfold Pd.flush;rw[if_neg hd]
    have e2:flushC d.off d.fu=24/\afterF d.off d.fu=d.fu/\afterO d.off d.fu=true:=by
     unfold flushC afterF afterO burnC burnF burnO
     cases ho:d.off
     ·have hf:d.fu=0:=Classical.byContradiction fun q=>hd ⟨ho,q⟩
      rw[hf]
      exact⟨rfl,rfl,rfl⟩
     ·exact⟨rfl,by simp,rfl⟩
    rw[e2.1,e2.2.1,e2.2.2,if_neg (by decide),if_neg (by decide)]at d1
    rw[e1]
    exact hcd ⟨d.img,d.puts,d.fu,true⟩ d1 h5
 refine Calls.mono (Flush_disk hg HR) ?_
 rintro e w' ⟨x,rfl,rfl,r1,r2⟩
 exact⟨rfl,r1,r2⟩
theorem Cq.cread{room nb:Nat}{d:Pd}(h:Cq Z w c p room nb K d)(hl:d.puts.length<=1073741824)(hK:K<4611686018427387904)(hon:d.off=false)(x:Nat)(hx:x<nb) :
  Calls Tryz.prog 260 #[.pointer (some ⟨c,0,none⟩),.int .i64 (x:Int)] w fun e w'=>∃g cp,e=.returned (.tuple #[.slice (some ⟨g,0,none⟩) 512 cp,.int .i64 0])/\w.heap.size<=g/\Own w' g 512 cp (d.read x)/\(∃Z',Cq Z' w' c p room nb (K+1) d/\Gr Z Z' w/\¬Z' g)/\But Z w w':=by
 have hrd:=h.dk.seen hx
 obtain⟨X,Y,hi,mi,l,h1,h2,h3,h4,h5,h6,h7⟩:=h
 have hnb:=h1.dk.facts.2.2.2
 have hwf:=wf_small (x:=(x:Int)) (by omega) (by omega)
 have hrs:readS l d.img d.puts d.off nb (x:Int)=(0,d.read x):=by
  unfold readS Pd.read
  rw[hon,if_neg (by simp)]
  cases hh:heldZ l (x:Int) with
  | none=>
   unfold readR
   rw[if_neg (by simp),if_neg (by omega)]
   rfl
  | some z=>
   unfold heldZ at hh
   obtain⟨q,hq,rfl⟩:=Option.map_eq_some_iff.1 hh
   have hm:=List.mem_of_find?_eq_some hq
   have hx2:=List.find?_some hq
   simp at hx2
   obtain⟨_,_,g3⟩:=h5 q hm
   rw[g3,hx2]
   rfl
 have hl2:(d.read x).length=512:=hrd.1
 refine Calls.mono (CRead_full2 h1 h4 hl hwf (by omega) (by omega)) ?_
 rintro e w' ⟨al,cp,rfl,q1,⟨X',Y',q2,q3,q4⟩,b,_⟩
 rw[hrs]at q1 q2 ⊢
 simp only[hl2]at q1 q2 ⊢
 rcases q1 with ⟨_,_,q1⟩ | ⟨g,rfl,q5,q6⟩
 ·rw[q1]at hl2;cases hl2
 ·have hg:Good (readL room l (0,d.read x) (x:Int)) d.img d.puts nb:=by
   have:=h5.read room d.off (x:Int)
   have hrr:readR d.img d.puts d.off nb (x:Int)=(0,d.read x):=by
    unfold readR Pd.read
    rw[hon,if_neg (by simp),if_neg (by omega)]
    rfl
   rwa [hrr]at this
  have k1:0<=hitN l 0 (x:Int)/\hitN l 0 (x:Int)<=1:=by unfold hitN;split <;> omega
  have k2:0<=missN l 0 (x:Int)/\missN l 0 (x:Int)<=1:=by unfold missN;split <;> omega
  refine⟨g,cp,rfl,q5,q6,⟨fun k=>X' k\/Y' k,⟨X',fun k=>Y' k/\k<w'.heap.size,_,_,_,⟨q2.ca.cut,q2.dk,fun k q=>q2.dj k q.1⟩,fun k q=>.inl q,fun k q=>.inr q.1,fun k q=>q.2,hg,by omega,by omega⟩,fun k hk q=>?_,?_⟩,b.mono (fun k _ q=>q.elim (h2 k) (h3 k))⟩
  ·rcases q with q | q
   ·exact h2 k ((q3 k hk).1 q)
   ·exact h3 k ((q3 k hk).2 q)
  ·rintro (q | q)
   ·exact (q4 g rfl).1 q
   ·exact (q4 g rfl).2 q
theorem Cq.dread{room nb:Nat}{d:Pd}(h:Cq Z w c p room nb K d)(hl:d.puts.length<=1073741824)(hon:d.off=false)(x:Nat)(hx:x<nb) :
  Calls Tryz.prog 168 #[.pointer (some ⟨p,0,none⟩),.int .i64 (x:Int)] w fun e w'=>∃g cp,e=.returned (.tuple #[.slice (some ⟨g,0,none⟩) 512 cp,.int .i64 0])/\w.heap.size<=g/\Own w' g 512 cp (d.read x)/\Below w.heap.size w w':=by
 have hrr:readR d.img d.puts d.off nb (x:Int)=(0,d.read x):=by
  unfold readR Pd.read
  rw[hon,if_neg (by simp),if_neg (by omega)]
  rfl
 have hlen:=(h.dk.seen hx).1
 refine Calls.mono (Read_any h.dk (x:Int) hl) ?_
 rintro e w' ⟨al,cp,rfl,h1,b⟩
 rw[hrr]at h1 ⊢
 have hl2:(d.read x).length=512:=hlen
 simp only[hl2]at h1 ⊢
 rcases h1 with ⟨_,_,h1⟩ | ⟨g,rfl,h2,h3⟩
 ·rw[h1]at hl2;cases hl2
 ·exact⟨g,cp,rfl,h2,h3,b⟩
theorem Pd.read_len{room nb:Nat}{d:Pd}(h:Cq Z w c p room nb K d)(x:Nat)(hx:x<nb):(d.read x).length=512/\Pl.isB (d.read x):=h.dk.seen hx
open Go.RowKit
structure Cmd where
 it:Option (Nat×List Int)
abbrev Cmd.wr (x:Nat) (zs:List Int):Cmd:=⟨some (x,zs)⟩
abbrev Cmd.fl:Cmd:=⟨none⟩
theorem Cmd.both(c:Cmd):(∃x zs,c=.wr x zs)\/c=.fl:=by
 obtain⟨_ | ⟨x,zs⟩⟩:=c
 ·exact .inr rfl
 ·exact .inl ⟨x,zs,rfl⟩
def Pd.run1 (d:Pd):Cmd->Int×Pd
 | ⟨some (x,zs)⟩=>d.write x zs
 | ⟨none⟩=>d.flush
def Pd.runs (d:Pd):List Cmd->Int×Pd
 | []=>(0,d)
 | c :: cs=>if (d.run1 c).1=0 then (d.run1 c).2.runs cs else d.run1 c
theorem Pd.runs_append(d:Pd)(xs bs:List Cmd):d.runs (xs++bs)=if (d.runs xs).1=0 then (d.runs xs).2.runs bs else d.runs xs:=by
 induction xs generalizing d with
 | nil=>rfl
 | cons a xs ih=>
  simp only[List.cons_append,Pd.runs]
  by_cases h:(d.run1 a).1=0
  ·simp only[if_pos h];exact ih _
  ·simp only[if_neg h]
theorem Pd.runs_one(d:Pd)(c:Cmd):d.runs [c]=d.run1 c:=by
 simp only[Pd.runs]
 split
 ·rename_i h;rw[<- h]
 ·rfl
theorem Pd.runs_snoc{d:Pd}{xs:List Cmd}(h:(d.runs xs).1=0)(c:Cmd):d.runs (xs++[c])=(d.runs xs).2.run1 c:=by
 rw[Pd.runs_append,if_pos h,Pd.runs_one]
theorem Pd.runs_stop{d:Pd}{xs:List Cmd}(h:(d.runs xs).1≠0)(bs:List Cmd):d.runs (xs++bs)=d.runs xs:=by
 rw[Pd.runs_append,if_neg h]
def Cmd.Ok (nb:Nat):Cmd->Prop
 | ⟨some (x,zs)⟩=>x<nb/\zs.length=512/\Pl.isB zs
 | ⟨none⟩=>True
theorem Pd.run1_puts(d:Pd)(c:Cmd):(d.run1 c).2.puts.length<=d.puts.length+1:=by
 rcases c.both with ⟨x,zs,rfl⟩ | rfl
 ·unfold Pd.run1 Pd.write;simp only;split <;> simp
 ·unfold Pd.run1 Pd.flush;simp only;split <;> simp
theorem Pd.runs_puts(d:Pd)(cs:List Cmd):(d.runs cs).2.puts.length<=d.puts.length+cs.length:=by
 induction cs generalizing d with
 | nil=>simp[Pd.runs]
 | cons c cs ih=>
  have h1:=d.run1_puts c
  unfold Pd.runs
  split
  ·have:=ih (d.run1 c).2
   simp only[List.length_cons]
   omega
  ·simp only[List.length_cons];omega
theorem Pd.run1_code(d:Pd)(c:Cmd):((d.run1 c).1=0/\d.off=false/\(d.run1 c).2.off=false)\/((d.run1 c).1=24/\(d.run1 c).2={ d with off:=true }):=by
 rcases c.both with ⟨x,zs,rfl⟩ | rfl
 ·skip
  unfold Pd.run1 Pd.write
  simp only
  split
  ·rename_i h;exact .inl ⟨rfl,h.1,rfl⟩
  ·exact .inr ⟨rfl,rfl⟩
 ·skip
  unfold Pd.run1 Pd.flush
  simp only
  split
  ·rename_i h;exact .inl ⟨rfl,h.1,rfl⟩
  ·exact .inr ⟨rfl,rfl⟩
theorem Pd.runs_code(d:Pd)(cs:List Cmd):((d.runs cs).1=0/\(d.off=false->(d.runs cs).2.off=false))\/((d.runs cs).1=24/\(d.runs cs).2.off=true):=by
 induction cs generalizing d with
 | nil=>exact .inl ⟨rfl,fun h=>h⟩
 | cons c cs ih=>
  unfold Pd.runs
  rcases d.run1_code c with ⟨h1,h2,h3⟩ | ⟨h1,h2⟩
  ·rw[if_pos h1]
   rcases ih (d.run1 c).2 with ⟨q1,q2⟩ | q
   ·exact .inl ⟨q1,fun _=>q2 h3⟩
   ·exact .inr q
  ·rw[if_neg (by omega)]
   exact .inr ⟨h1,by rw[h2]⟩
theorem Pd.run1_free{d:Pd}(h:d.off=false)(hf:d.fu=-1)(c:Cmd):(d.run1 c).1=0/\(d.run1 c).2.off=false/\(d.run1 c).2.fu=-1:=by
 have hc:d.off=false/\d.fu≠0:=⟨h,by omega⟩
 rcases c.both with ⟨x,zs,rfl⟩ | rfl
 ·skip
  have e:d.run1 (.wr x zs)=(0,⟨d.img,d.puts++[(x,zs)],burnF d.fu,false⟩):=if_pos hc
  rw[e]
  exact⟨rfl,rfl,by show burnF d.fu=-1;unfold burnF;rw[if_pos hf]⟩
 ·skip
  have e:d.run1 .fl=(0,⟨flushZ d.img d.puts,[],burnF d.fu,false⟩):=if_pos hc
  rw[e]
  exact⟨rfl,rfl,by show burnF d.fu=-1;unfold burnF;rw[if_pos hf]⟩
theorem Pd.runs_free{d:Pd}(h:d.off=false)(hf:d.fu=-1)(cs:List Cmd):(d.runs cs).1=0/\(d.runs cs).2.off=false/\(d.runs cs).2.fu=-1:=by
 induction cs generalizing d with
 | nil=>exact⟨rfl,h,hf⟩
 | cons c cs ih=>
  obtain⟨h1,h2,h3⟩:=d.run1_free h hf c
  unfold Pd.runs
  rw[if_pos h1]
  exact ih h2 h3
end Go.Proofs.YtlefjidbpjkhlaaGreat
