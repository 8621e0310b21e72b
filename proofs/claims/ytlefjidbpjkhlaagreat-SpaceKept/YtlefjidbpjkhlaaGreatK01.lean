import Derived.Test.YtlefjidbpjkhlaaGreatK00
import Derived.Maps.OwnOps
import Derived.Maps.OwnSet
import Derived.Maps.Views
import Derived.Laws.CopyRow
import Derived.Laws.Tables
set_option maxRecDepth 100000
set_option maxHeartbeats 16000000
namespace Go.Proofs.YtlefjidbpjkhlaaGreat
variable {w w' w2:World}
variable {cL e f gL i k m mp n o p t x:Nat}
variable {lv mv pv v:Value}
variable {fu:Int}
variable {off:Bool}
variable {R:World->Prop}
variable {a:Option Addr}
variable {img zs:List Int}
variable {X Y:Nat->Prop}
variable {xs:List Value}
variable {α:Type}
variable {ty:TypeId}
open Go.RowKit
theorem ask_two {cap:Array Value} {code:Int} (hf:f=226\/f=193\/f=159) (hD:Dkb w p lv pv mv fu off) (H:Calls Tryz.prog f (#[.pointer (some ⟨p,0,none⟩)]++cap) w fun e w'=>e=.returned (.int .i64 code)/\R w')
  (k0:w.cell? ⟨k,0,none⟩=some (.func (.func 157) #[] #[])) (k1:w.cell? ⟨k,1,none⟩=some (.func (.func f) #[] cap)) {Q:Ending->World->Prop} (q1:off=true->Q (.returned (.int .i64 24)) w) (q2:off=false->∀w',R w'->Q (.returned (.int .i64 code)) w') :
  Calls Tryz.prog 102 #[.pointer (some ⟨p,0,none⟩),.slice (some ⟨k,0,none⟩) 2 2] w Q:=by
 have H1:=hid (powerIsOn_any hD)
 have H2:=hid H
 have Q1:=hid q1
 have Q2:=hid q2
 clear H hD q1 q2
 go_enter Tryz.func102,Tryz.ntmps102
 cases off
 ·simp only[Bool.false_eq_true,if_false]at H1
  go_wp2_with fail
  refine wp_loop_rounds 3 ?_
  rw[rounds_succ]
  go_wp2_with fail
  refine Calls.mono H1.out ?_
  rintro e w1 ⟨rfl,rfl⟩
  go_wp2_with fail
  rw[rounds_succ]
  by_cases hz:code=0
  ·subst hz
   rcases hf with rfl | rfl | rfl
   all_goals
    go_wp2_with fail
    refine Calls.mono H2.out ?_
    rintro e w2 ⟨rfl,hb⟩
    have Hb:=hid hb
    clear hb k0 k1
    go_wp2_with fail
    rw[rounds_succ]
    go_wp2
    exact Q2.out (by simp) _ Hb.out
  ·rcases hf with rfl | rfl | rfl
   all_goals
    go_wp2_with fail
    refine Calls.mono H2.out ?_
    rintro e w2 ⟨rfl,hb⟩
    have Hb:=hid hb
    clear hb k0 k1
    go_wp2
    exact Q2.out (by simp) _ Hb.out
 ·simp only[if_true]at H1
  go_wp2_with fail
  refine wp_loop_rounds 3 ?_
  rw[rounds_succ]
  go_wp2_with fail
  refine Calls.mono H1.out ?_
  rintro e w1 ⟨rfl,rfl⟩
  go_wp2
  exact Q1.out (by simp)
theorem ask_four {c d cd:Nat} {x:Int} {ad:Option Addr} {nb cap:Nat} {code:Int} (hn:nb<=524288) (hD:Dkb w p (.slice a (512 * nb) cap) pv mv fu off) (hc:w.cell? ⟨c,0,none⟩=some (.int .i64 x)) (hd:w.cell? ⟨d,0,none⟩=some (.slice ad n cd))
  (hk:k<w.heap.size) (hdl:d<w.heap.size) (H:∀w1,Below w.heap.size w w1->Calls Tryz.prog 159 #[.pointer (some ⟨p,0,none⟩)] w1 fun e w'=>e=.returned (.int .i64 code)/\R w')
  (k0:w.cell? ⟨k,0,none⟩=some (.func (.func 157) #[] #[])) (k1:w.cell? ⟨k,1,none⟩=some (.func (.func 226) #[] #[.pointer (some ⟨c,0,none⟩)])) (k2:w.cell? ⟨k,2,none⟩=some (.func (.func 239) #[] #[.pointer (some ⟨d,0,none⟩)])) (k3:w.cell? ⟨k,3,none⟩=some (.func (.func 159) #[] #[]))
  {Q:Ending->World->Prop} (q1:off=true->Q (.returned (.int .i64 24)) w) (q2:off=false->(x<0\/(nb:Int)<=x)->∀w',Below w.heap.size w w'->Q (.returned (.int .i64 22)) w') (q3:off=false->¬(x<0\/(nb:Int)<=x)->n≠512->∀w',Below w.heap.size w w'->Q (.returned (.int .i64 23)) w')
  (q4:off=false->¬(x<0\/(nb:Int)<=x)->n=512->∀w',R w'->Q (.returned (.int .i64 code)) w') :
  Calls Tryz.prog 102 #[.pointer (some ⟨p,0,none⟩),.slice (some ⟨k,0,none⟩) 4 4] w Q:=by
 have H1:=hid (powerIsOn_any hD)
 have H2:=hid (isThere1_any hn hc hD)
 have H4:=hid H
 have Hd:=hid hd
 have HK:=hid (And.intro k2 k3)
 have Q1:=hid q1
 have Q2:=hid q2
 have Q3:=hid q3
 have Q4:=hid q4
 clear H hD hc hd q1 q2 q3 q4
 go_enter Tryz.func102,Tryz.ntmps102
 cases off
 ·simp only[Bool.false_eq_true,if_false]at H1
  go_wp2_with fail
  refine wp_loop_rounds 5 ?_
  rw[rounds_succ]
  go_wp2_with fail
  refine Calls.mono H1.out ?_
  rintro e w1 ⟨rfl,rfl⟩
  go_wp2_with fail
  rw[rounds_succ]
  by_cases hz:x<0\/(nb:Int)<=x
  ·simp only[if_pos hz]at H2
   go_wp2_with fail
   refine Calls.mono H2.out ?_
   rintro e w2 ⟨rfl,hb⟩
   have Hb:=hid hb
   clear hb k0 k1 k2 k3
   have Hz:=hid hz
   clear hz
   go_wp2
   exact Q2.out (by simp) Hz.out _ Hb.out
  ·simp only[if_neg hz]at H2
   go_wp2_with fail
   refine Calls.mono H2.out ?_
   rintro e w2 ⟨rfl,hb⟩
   have k2':=(hb.cell (p:=⟨k,2,none⟩) hk).trans HK.out.1
   have k3':=(hb.cell (p:=⟨k,3,none⟩) hk).trans HK.out.2
   have H3:=hid (isOneBlock1_any (.pointer (some ⟨p,0,none⟩)) ((hb.cell (p:=⟨d,0,none⟩) hdl).trans Hd.out))
   have Hb:=hid hb
   have Hz:=hid hz
   clear hb k0 k1 k2 k3 hz
   go_wp2_with fail
   rw[rounds_succ]
   by_cases h5:n=512
   ·simp only[if_neg (fun h=>h h5:¬n≠512)]at H3
    go_wp2_with fail
    refine Calls.mono H3.out ?_
    rintro e w3 ⟨rfl,rfl⟩
    have H5:=hid (H4.out w3 Hb.out)
    go_wp2_with fail
    rw[rounds_succ]
    by_cases h6:code=0
    ·subst h6
     go_wp2_with fail
     refine Calls.mono H5.out ?_
     rintro e w4 ⟨rfl,hr⟩
     have Hr:=hid hr
     clear hr k2' k3'
     go_wp2_with fail
     rw[rounds_succ]
     go_wp2
     exact Q4.out (by simp) Hz.out h5 _ Hr.out
    ·go_wp2_with fail
     refine Calls.mono H5.out ?_
     rintro e w4 ⟨rfl,hr⟩
     have Hr:=hid hr
     clear hr k2' k3'
     go_wp2
     exact Q4.out (by simp) Hz.out h5 _ Hr.out
   ·simp only[if_pos (show n≠512 from h5)]at H3
    go_wp2_with fail
    refine Calls.mono H3.out ?_
    rintro e w3 ⟨rfl,rfl⟩
    clear k2' k3'
    go_wp2
    exact Q3.out (by simp) Hz.out h5 _ Hb.out
 ·simp only[if_true]at H1
  go_wp2_with fail
  refine wp_loop_rounds 5 ?_
  rw[rounds_succ]
  go_wp2_with fail
  refine Calls.mono H1.out ?_
  rintro e w1 ⟨rfl,rfl⟩
  go_wp2
  exact Q1.out (by simp)
open Go.RowKit
structure Pw where
 at_:Nat
 data:List Int
 g:Nat
 c:Nat
def Pw.put (d:Pw):Nat×List Int:=(d.at_,d.data)
def pcs (ds:List Pw):List Value:=ds.flatMap fun d=>[.int .i64 (d.at_:Int),.slice (some ⟨d.g,0,none⟩) 512 d.c]
theorem pcs_snoc(ds:List Pw)(d:Pw):pcs (ds++[d])=pcs ds++[.int .i64 (d.at_:Int),.slice (some ⟨d.g,0,none⟩) 512 d.c]:=by simp[pcs]
theorem pcs_get(ds:List Pw):∀i d,ds[i]?=some d->(pcs ds)[i * 2]?=some (.int .i64 (d.at_:Int))/\(pcs ds)[i * 2+1]?=some (.slice (some ⟨d.g,0,none⟩) 512 d.c):=by
 induction ds with
 | nil=>intro i d h;simp at h
 | cons e r ih=>
  intro i d h
  match i with
  | 0=>simp at h;subst h;exact⟨rfl,rfl⟩
  | i+1=>
   have:=ih i d (by simpa using h)
   have e1:(i+1) * 2=i * 2+2:=by omega
   rw[e1]
   exact this
def MapL (w:World) (mp n:Nat) (ds:List Pw):Prop :=
 ∃D:DataW Unit,w.ownsMap Tryz.prog 3 (plainElem Tryz.prog 3) mp n D/\∀x:Int,(Maps.has D (.int .i64 x)=false/\∀d∈ds,(d.at_:Int)≠x) \/
  ∃(i:Nat) (d:Pw),Maps.has D (.int .i64 x)=true/\D.atKey (.int .i64 x) (.lit (.int .i64 0))=.lit (.int .i64 (i:Int))/\ds[i]?=some d/\(d.at_:Int)=x/\∀j d',i<j->ds[j]?=some d'->(d'.at_:Int)≠x
def seenZ (img:List Int) (puts:List (Nat×List Int)) (x:Nat):List Int:=puts.foldl (fun s q=>if q.1=x then q.2 else s) ((img.drop (512 * x)).take 512)
theorem seen_none :∀ {ds:List Pw} (s:List Int),(∀d∈ds,d.at_≠x)->(ds.map Pw.put).foldl (fun s q=>if q.1=x then q.2 else s) s=s:=by
 intro ds
 induction ds with
 | nil=>intro s _;rfl
 | cons d r ih=>
  intro s h
  have h0:=h d (by simp)
  simp only[List.map_cons,List.foldl_cons,Pw.put,if_neg h0]
  exact ih s (fun d' hd=>h d' (by simp[hd]))
theorem seen_last{ds:List Pw}{d:Pw}(h:ds[i]?=some d)(hx:d.at_=x)(hl:∀j d',i<j->ds[j]?=some d'->d'.at_≠x):seenZ img (ds.map Pw.put) x=d.data:=by
 have hi:i<ds.length:=(List.getElem?_eq_some_iff.1 h).1
 have e:ds=ds.take i++[d]++ds.drop (i+1):=by
  have e1:ds.drop i=d :: ds.drop (i+1):=by
   rw[List.drop_eq_getElem_cons hi]
   congr 1
   have:=(List.getElem?_eq_some_iff.1 h).2
   exact this
  have e2:=List.take_append_drop i ds
  rw[e1]at e2
  simpa using e2.symm
 unfold seenZ
 rw[e]
 simp only[List.map_append,List.foldl_append,List.map_cons,List.map_nil,List.foldl_cons,List.foldl_nil,Pw.put,if_pos hx]
 refine seen_none _ (fun d' hd=>?_)
 obtain⟨j,hj,e3⟩:=List.mem_iff_getElem.1 hd
 refine hl (i+1+j) d' (by omega) ?_
 rw[<- e3]
 simp at hj ⊢
structure DkW (X:Nat->Prop) (w:World) (p:Nat) (img:List Int) (ds:List Pw) (fu:Int) (off:Bool) (gL cL:Nat) (pv:Value) (mp nb:Nat):Prop where
 blk:Dkb w p (.slice (some ⟨gL,0,none⟩) (512 * nb) cL) pv (.map (some mp)) fu off
 own:Own w gL (512 * nb) cL img
 isb:Pl.isB img
 lo:1<=nb
 hi:nb<=524288
 row:w.ownsRow 0 226 2 pv ds.length (pcs ds)
 dat:∀d∈ds,Own w d.g 512 d.c d.data/\Pl.isB d.data/\d.g≠gL/\X d.g/\d.at_<nb
 map:MapL w mp ds.length ds
 xp:X p
 xl:X gL
 xm:X mp
 xr:∀g,pv.ownBlock=some g->X g
 fus:-1<=fu/\fu<=9223372036854775807
def Dk (X:Nat->Prop) (w:World) (p:Nat) (img:List Int) (puts:List (Nat×List Int)) (fu:Int) (off:Bool) (nb:Nat):Prop :=
 ∃ds gL cL pv mp,ds.map Pw.put=puts/\DkW X w p img ds fu off gL cL pv mp nb
theorem MapL.keep{ds:List Pw}(h:MapL w mp n ds)(hk:w'.heap[mp]?=w.heap[mp]?):MapL w' mp n ds:=by
 obtain⟨D,⟨es,clock,h1,h2⟩,h3⟩:=h
 exact⟨D,⟨es,clock,hk.trans h1,h2⟩,h3⟩
theorem MapL.lt{ds:List Pw}(h:MapL w mp n ds):mp<w.heap.size:=by
 obtain⟨D,h1,_⟩:=h
 exact h1.lt
theorem Own.keep{g cap:Nat}(h:Own w g n cap zs)(hk:w'.heap[g]?=w.heap[g]?):Own w' g n cap zs:=owns_keep h (fun g' e=>by cases e;exact hk)
theorem DkW.keep{ds:List Pw}{nb:Nat}(h:DkW X w p img ds fu off gL cL pv mp nb)(hk:∀x,X x->x<w.heap.size->w'.heap[x]?=w.heap[x]?):DkW X w' p img ds fu off gL cL pv mp nb :=
 ⟨h.blk.of_block (hk p h.xp h.blk.lt),h.own.keep (hk gL h.xl h.own.lt),h.isb,h.lo,h.hi,owns_keep h.row (fun g e=>hk g (h.xr g e) (World.ownsRow.lt h.row g e).2),fun d hd=>⟨(h.dat d hd).1.keep (hk d.g (h.dat d hd).2.2.2.1 (h.dat d hd).1.lt),(h.dat d hd).2⟩,h.map.keep (hk mp h.xm h.map.lt),h.xp,h.xl,h.xm,h.xr,h.fus⟩
theorem Dk.keep{puts:List (Nat×List Int)}{nb:Nat}(h:Dk X w p img puts fu off nb)(hk:∀x,X x->x<w.heap.size->w'.heap[x]?=w.heap[x]?):Dk X w' p img puts fu off nb:=by
 obtain⟨ds,gL,cL,pv,mp,e,h⟩:=h
 exact⟨ds,gL,cL,pv,mp,e,h.keep hk⟩
theorem Dk.but{puts:List (Nat×List Int)}{nb:Nat}(h:Dk X w p img puts fu off nb)(hb:But Y w w')(hx:∀x,X x->¬Y x):Dk X w' p img puts fu off nb:=h.keep (fun x h1 h2=>hb.block x h2 (hx x h1))
theorem Dk.below{puts:List (Nat×List Int)}{nb:Nat}(h:Dk X w p img puts fu off nb)(hb:Below w.heap.size w w'):Dk X w' p img puts fu off nb:=h.keep (fun x _ h2=>hb.block x h2)
theorem Dk.mono{X':Nat->Prop}{puts:List (Nat×List Int)}{nb:Nat}(h:Dk X w p img puts fu off nb)(hx:∀x,X x->X' x):Dk X' w p img puts fu off nb:=by
 obtain⟨ds,gL,cL,pv,mp,e,h⟩:=h
 exact⟨ds,gL,cL,pv,mp,e,⟨h.blk,h.own,h.isb,h.lo,h.hi,h.row,fun d hd=>⟨(h.dat d hd).1,(h.dat d hd).2.1,(h.dat d hd).2.2.1,hx _ (h.dat d hd).2.2.2.1,(h.dat d hd).2.2.2.2⟩,h.map,hx _ h.xp,hx _ h.xl,hx _ h.xm,fun g e=>hx g (h.xr g e),h.fus⟩⟩
theorem Clone_any(ad:Addr)(n c:Nat)(zs:List Int)(w:World)(hn:n<=140737488351232)(hR:Rd w.heap.size w (some ad) n zs) :
  Calls Tryz.prog 103 #[.slice (some ad) n c] w fun e w'=>∃g cap,e=.returned (.slice (some ⟨g,0,none⟩) n cap)/\w.heap.size<=g/\Own w' g n cap zs/\Below w.heap.size w w':=by
 obtain⟨i0,hi,hz0,hz1,hz2⟩:=info_parts info5
 have hb:Below w.heap.size w (w.alloc (.cells #[] 5)):=(Below.refl _ _).alloc (Nat.le_refl _) _
 have h0:(w.alloc (.cells #[] 5)).ownsRow w.heap.size 5 1 (.slice (some ⟨w.heap.size,0,none⟩) 0 0) 0 []:=World.ownsRow_lit w #[] 0 (Nat.le_refl _) (by decide) rfl
 have hR2:=hR.below hb
 have hl:=hR.1
 have hsrc:∀j u,(zs.map (Value.int .u8))[j]?=some u->(w.alloc (.cells #[] 5)).cell? (ad.add j)=some u:=by
  by_cases h0:n=0
  ·intro j u h
   rw[h0]at hl
   obtain rfl:zs=[]:=List.length_eq_zero_iff.1 hl
   simp at h
  ·obtain⟨ad',e,h⟩:=hR2.src (by omega)
   cases e
   exact h
 have hne:∀(u:World),(binOp .eql 65 (.slice (some ad) n c) (.slice none 0 0)).run Tryz.prog u=.ok (.bool false) u:=fun u=>Lib.run_eql_slice_nil u 65 5 (some ad) n c 0 0 Tryz.underlying65
 go_enter Tryz.func103,Tryz.ntmps103
 go_wp2_with (at_builtin;refine wpList_append_own _ rfl _ _ 65 rfl w.heap.size 5 i0 (.int .u8 0) 1 1 Tryz.underlying65 hi hz0 hz1 hz2 rfl (by decide) _ 0 [] rfl h0 ad n c (zs.map (Value.int .u8)) rfl (by rw[List.length_map,hl,Nat.mul_one]) hsrc (u8_one _) (by unfold maxLen;omega) (by omega) (by simp) ?_)
 intro v' w1 hown hgrow hnn
 obtain⟨g,cap,rfl,hg,_⟩:=owns_form hown hnn
 have HO:=hid (Own.of hown)
 have hb1:Below w.heap.size w w1:=hb.grown hgrow (by simp) (fun k h=>by cases h;exact Nat.le_refl _)
 clear hown hgrow hnn
 go_wp2
 go_ret
 exact⟨g,cap,rfl,hg,HO.out,hb1⟩
theorem law3:Maps.Keyed Tryz.prog 3:=Maps.int_keyed Tryz.underlying3
theorem zero3(w:World):(zeroValue 3).run Tryz.prog w=.ok (.int .i64 0) w:=by kernel_rfl
theorem wide_cell{base c:Nat}(h:w.ownsRow base e 2 (.slice a n c) n xs)(hn:0<n):∃g,a=some ⟨g,0,none⟩/\g<w.heap.size/\∀i u,xs[i]?=some u->w.cell? ⟨g,i,none⟩=some u:=by
 rcases h with ⟨h0,h⟩
 rcases h with ⟨h1,h2⟩ | ⟨g,cap,cur,h1,h2,h3,h4,h5,h6,h7⟩
 ·omega
 ·cases h1
  refine⟨g,rfl,(Array.getElem?_eq_some_iff.1 h3).1,fun i u hu=>?_⟩
  have hi:i<n * 2:=by have:=(List.getElem?_eq_some_iff.1 hu).1;omega
  rw[<- h7,List.getElem?_take_of_lt hi]at hu
  simp only[World.cell?,h3]
  simpa using hu
theorem seen_any{ds:List Pw}{nb:Nat}(h:DkW X w p img ds fu off gL cL pv mp nb)(x:Nat)(hx:x<nb)(hds:ds.length<=1073741824) :
  Calls Tryz.prog 200 #[.pointer (some ⟨p,0,none⟩),.int .i64 (x:Int)] w fun e w'=>∃ad c,e=.returned (.slice (some ad) 512 c)/\Rd w.heap.size w (some ad) 512 (seenZ img (ds.map Pw.put) x)/\w'=w:=by
 obtain⟨D,hown,hD⟩:=h.map
 obtain⟨aP,cP,rfl,_⟩:=owns_slice h.row
 have q0:=h.blk.cell 0
 have q1:=h.blk.cell 1
 have q2:=h.blk.cell 2
 simp only[List.getElem?_toArray,List.getElem?_cons_succ,List.getElem?_cons_zero]at q0 q1 q2
 have hhi:=h.hi
 have hkey:keyOf Tryz.prog 3 (.int .i64 (x:Int))=some (.int .i64 (x:Int)):=Maps.keyOf_int_mk Tryz.underlying3 (WalkArith.wf_i64 (by omega))
 rcases hD (x:Int) with ⟨hh,hno⟩ | ⟨i,d,hh,hat,hi,hd,hl⟩
 ·have hZ:Hid (Rd w.heap.size w (some ⟨gL,x * 512,none⟩) 512 (seenZ img (ds.map Pw.put) x)):=by
   show Rd _ _ _ _ _
   have e:seenZ img (ds.map Pw.put) x=(img.drop (512 * x)).take 512:=by
    unfold seenZ
    exact seen_none _ (fun d hd e=>hno d hd (by omega))
   have hlen:=h.own.len
   rw[e]
   refine⟨by simp;omega,Pl.isB_take (Pl.isB_drop h.isb _) _,.inr ⟨gL,x * 512,rfl,h.own.lt,fun t ht=>?_⟩⟩
   rw[h.own.cell (x * 512+t) (by omega)]
   rw[List.getD_eq_getElem?_getD,List.getD_eq_getElem?_getD,List.getElem?_take_of_lt ht,List.getElem?_drop,Nat.mul_comm 512 x]
  have hcap:=h.own.cap
  have hlo:=h.lo
  clear hD h hno
  go_enter Tryz.func200,Tryz.ntmps200
  go_wp2_with (at_lookup;refine wpList_lookup_own_ok_int _ rfl _ _ 172 rfl 3 3 .i64 law3 Tryz.underlying172 Tryz.underlying3 (zero3 _) mp _ D rfl hown _ _ rfl hkey ?_;intro c hat hwc)
  go_ret
  exact⟨⟨gL,x * 512,none⟩,cL-x * 512,by rw[Nat.add_sub_cancel_left];rfl,hZ.out,rfl⟩
 ·have hi':i<ds.length:=(List.getElem?_eq_some_iff.1 hi).1
  obtain⟨g,rfl,hg,hc⟩:=wide_cell h.row (by omega)
  obtain⟨_,r1⟩:=pcs_get ds i d hi
  have q3:=hc _ _ r1
  have hdd:=h.dat d (List.mem_of_getElem? hi)
  have hZ:Hid (Rd w.heap.size w (some ⟨d.g,0,none⟩) 512 (seenZ img (ds.map Pw.put) x)):=by
   show Rd _ _ _ _ _
   rw[seen_last hi (by omega) (fun j d' h1 h2 e=>hl j d' h1 h2 (by omega))]
   exact hdd.1.rd hdd.2.1
  have hi2:(i:Int)<(ds.length:Int):=by omega
  clear hD h hl hc hdd r1
  go_enter Tryz.func200,Tryz.ntmps200
  go_wp2_with (at_lookup;refine wpList_lookup_own_ok_int _ rfl _ _ 172 rfl 3 3 .i64 law3 Tryz.underlying172 Tryz.underlying3 (zero3 _) mp _ D rfl hown _ _ rfl hkey ?_;intro c hat' hwc;obtain rfl:c=(i:Int):=by (rw[hat]at hat';injection hat' with e;injection e with _ e;exact e.symm))
  go_ret
  exact⟨⟨d.g,0,none⟩,d.c,rfl,hZ.out,rfl⟩
open Go.RowKit
theorem cell_new{vs:Array Value}{t:TypeId}{S:Nat}(hS:w.heap.size=S)(i:Nat)(v:Value)(h:vs[i]?=some v):(w.alloc (.cells vs t)).cell? ⟨S,i,none⟩=some v:=by
 have e:(w.alloc (.cells vs t)).heap[S]?=some (.cells vs t):=by
  subst hS
  show (w.heap.push _)[w.heap.size]?=_
  simp
 simp[World.cell?,e,h]
theorem two_ready(w:World)(v:Value)(t:TypeId)(f:Nat)(e:w2=(w.alloc (.cells #[v] t)).alloc (.cells #[.func (.func 157) #[] #[],.func (.func f) #[] #[.pointer (some ⟨w.heap.size,0,none⟩)]] 221)) :
  Below w.heap.size w w2/\w2.cell? ⟨w.heap.size,0,none⟩=some v/\w2.cell? ⟨w.heap.size+1,0,none⟩=some (.func (.func 157) #[] #[])/\w2.cell? ⟨w.heap.size+1,1,none⟩=some (.func (.func f) #[] #[.pointer (some ⟨w.heap.size,0,none⟩)]):=by
 subst e
 have z:(w.alloc (.cells #[v] t)).heap.size=w.heap.size+1:=by simp
 refine⟨((Below.refl _ _).alloc (Nat.le_refl _) _).alloc (by omega) _,?_,cell_new z 0 _ rfl,cell_new z 1 _ rfl⟩
 rw[World.cell?_alloc_past _ _ _ (by simp)]
 exact cell_new rfl 0 _ rfl
def readR (img:List Int) (puts:List (Nat×List Int)) (off:Bool) (nb:Nat) (x:Int):Int×List Int :=
 if off then (24,[]) else if x<0\/(nb:Int)<=x then (22,[]) else (0,seenZ img puts x.toNat)
theorem Read_any{puts:List (Nat×List Int)}{nb:Nat}(h:Dk X w p img puts fu off nb)(x:Int)(hl:puts.length<=1073741824) :
  Calls Tryz.prog 168 #[.pointer (some ⟨p,0,none⟩),.int .i64 x] w fun e w'=>∃al c,e=.returned (.tuple #[.slice al (readR img puts off nb x).2.length c,.int .i64 (readR img puts off nb x).1]) /\
   ((al=none/\c=0/\(readR img puts off nb x).2=[])\/∃g,al=some ⟨g,0,none⟩/\w.heap.size<=g/\Own w' g (readR img puts off nb x).2.length c (readR img puts off nb x).2)/\Below w.heap.size w w':=by
 obtain⟨ds,gL,cL,pv,mp,rfl,h⟩:=h
 have HI:=hid (isThere_any x w)
 obtain⟨w2,hw2⟩:∃w2,w2=(w.alloc (.cells #[.int .i64 x] 3)).alloc (.cells #[.func (.func 157) #[] #[],.func (.func 226) #[] #[.pointer (some ⟨w.heap.size,0,none⟩)]] 221):=⟨_,rfl⟩
 obtain⟨b2,hc,k0,k1⟩:=two_ready w _ _ _ hw2
 have HT:Calls Tryz.prog 226 (#[.pointer (some ⟨p,0,none⟩)]++#[.pointer (some ⟨w.heap.size,0,none⟩)]) w2 fun e w'=>e=.returned (.int .i64 (if x<0\/(nb:Int)<=x then 22 else 0))/\Below w2.heap.size w2 w':=isThere1_any h.hi hc (h.blk.of_block (b2.block p h.blk.lt))
 have HA:=hid (ask_two (f:=226) (cap:=#[.pointer (some ⟨w.heap.size,0,none⟩)]) (Q:=fun e w'=>e=.returned (.int .i64 (if off then 24 else if x<0\/(nb:Int)<=x then 22 else 0))/\Below w.heap.size w w') (k:=w.heap.size+1) (.inl rfl) (h.blk.of_block (b2.block p h.blk.lt)) HT k0 k1 (fun e=>⟨by rw[e];rfl,b2⟩) (fun e w' hb=>⟨by rw[e];rfl,b2.trans (hb.mono b2.size)⟩))
 clear k0 k1 hc b2 HT
 go_enter Tryz.func168,Tryz.ntmps168
 go_wp2_with fail
 refine Calls.mono HI.out ?_
 rintro e w1 ⟨rfl,rfl⟩
 go_wp2_with fail
 rw[<- hw2]
 refine Calls.mono HA.out ?_
 rintro e w3 ⟨rfl,hb3⟩
 have Hb3:=hid hb3
 have H3:=hid (h.keep (w':=w3) (fun x _ hx=>hb3.block x hx))
 clear hw2 HA HI hb3 h
 cases off
 ·by_cases hx:x<0\/(nb:Int)<=x
  ·simp only[if_pos hx,Bool.false_eq_true,if_false]
   have hr:readR img (ds.map Pw.put) false nb x=(22,[]):=by simp only[readR,if_pos hx,Bool.false_eq_true,if_false]
   clear hx
   go_wp2
   go_ret2
   rw[hr]
   exact⟨none,0,rfl,.inl ⟨rfl,rfl,rfl⟩,Hb3.out⟩
  ·obtain⟨y,rfl⟩:∃y:Nat,x=y:=⟨x.toNat,by omega⟩
   have HSn:=hid (seen_any H3.out y (by omega) (by simpa using hl))
   have hr:readR img (ds.map Pw.put) false nb (y:Int)=(0,seenZ img (ds.map Pw.put) y):=by simp only[readR,if_neg hx,Bool.false_eq_true,if_false,Int.toNat_natCast]
   simp only[if_neg hx,Bool.false_eq_true,if_false]
   clear hx
   go_wp2_with fail
   refine Calls.mono HSn.out ?_
   rintro e w4 ⟨ad,c,rfl,hR,rfl⟩
   have HCl:=hid (Clone_any ad 512 c _ w4 (by omega) hR)
   have hlen:=hR.1
   clear hR HSn
   generalize seenZ img (ds.map Pw.put) y=Z at *
   go_wp2_with fail
   refine Calls.mono HCl.out ?_
   rintro e w5 ⟨g,cap,rfl,hg,hO,hb5⟩
   have HO:=hid hO
   have Hb5:=hid hb5
   have Hg:=hid hg
   clear hO hb5 hg HCl
   go_wp2
   go_ret2
   rw[hr]
   show ∃al c,_=Ending.returned (.tuple #[.slice al Z.length c,.int .i64 0])/\((al=none/\c=0/\Z=[])\/∃g,al=some ⟨g,0,none⟩/\_<=g/\Own _ g Z.length c Z)/\_
   rw[hlen]
   exact⟨some ⟨g,0,none⟩,cap,rfl,.inr ⟨g,rfl,Nat.le_trans Hb3.out.size Hg.out,HO.out⟩,Hb3.out.trans (Hb5.out.mono Hb3.out.size)⟩
 ·simp only[if_true]
  have hr:readR img (ds.map Pw.put) true nb x=(24,[]):=by simp only[readR,if_true]
  go_wp2
  go_ret2
  rw[hr]
  exact⟨none,0,rfl,.inl ⟨rfl,rfl,rfl⟩,Hb3.out⟩
theorem On_any{puts:List (Nat×List Int)}{nb:Nat}(h:Dk X w p img puts fu off nb) :
  Calls Tryz.prog 133 #[.pointer (some ⟨p,0,none⟩)] w fun e w'=>e=.returned (.bool (!off))/\Below w.heap.size w w':=by
 obtain⟨ds,gL,cL,pv,mp,rfl,h⟩:=h
 have b2:Below w.heap.size w (w.alloc (.cells #[.func (.func 157) #[] #[]] 221)):=(Below.refl _ _).alloc (Nat.le_refl _) _
 have HA:=hid (ask_on (k:=w.heap.size) (h.blk.of_block (b2.block p h.blk.lt)) (cell_new rfl 0 _ rfl))
 have Hb:=hid b2
 clear h b2
 go_enter Tryz.func133,Tryz.ntmps133
 go_wp2_with fail
 refine Calls.mono HA.out ?_
 rintro e w1 ⟨rfl,rfl⟩
 clear HA
 cases off
 ·go_wp2
  go_ret
  exact⟨rfl,Hb.out⟩
 ·go_wp2
  go_ret
  exact⟨rfl,Hb.out⟩
open Go.RowKit
theorem Own.kind{g c:Nat}(h:Own w g n c zs):∃cur,w.heap[g]?=some (.cells cur 5 (0,0)):=by
 rcases h.2 with ⟨h1,_⟩ | ⟨_,_,cur,h1,_,h2,_⟩
 ·cases h1
 ·cases h1
  exact⟨cur,h2⟩
theorem row_kind{base size:Nat}(h:w.ownsRow base e size v n xs){g:Nat}(hg:v.ownBlock=some g):∃cur,w.heap[g]?=some (.cells cur e (0,0)):=by
 rcases h.2 with ⟨h1,_⟩ | ⟨_,_,cur,h1,_,h2,_⟩
 ·rw[h1]at hg;cases hg
 ·rw[h1]at hg;cases hg
  exact⟨cur,h2⟩
theorem MapL.kind{ds:List Pw}(h:MapL w mp n ds):∃es ck,w.heap[mp]?=some (.map es ck):=by
 obtain⟨D,⟨es,ck,h1,_⟩,_⟩:=h
 exact⟨es,ck,h1⟩
theorem DkW.apart{ds:List Pw}{nb:Nat}(h:DkW X w p img ds fu off gL cL pv mp nb):gL≠p/\(∀g,pv.ownBlock=some g->g≠p)/\mp≠p/\∀d∈ds,d.g≠p:=by
 have hp:w.heap[p]?=_:=h.blk
 refine⟨fun e=>?_,fun g hg e=>?_,fun e=>?_,fun d hd e=>?_⟩
 ·obtain⟨cur,hc⟩:=h.own.kind
  rw[e,hp]at hc
  cases hc
 ·obtain⟨cur,hc⟩:=row_kind h.row hg
  rw[e,hp]at hc
  cases hc
 ·obtain⟨es,ck,hc⟩:=h.map.kind
  rw[e,hp]at hc
  cases hc
 ·obtain⟨cur,hc⟩:=(h.dat d hd).1.kind
  rw[e,hp]at hc
  cases hc
theorem DkW.reblk{ds:List Pw}{fu':Int}{off':Bool}{nb:Nat}(h:DkW X w p img ds fu off gL cL pv mp nb)(hb:Dkb (w.setCell ⟨p,t,none⟩ v) p (.slice (some ⟨gL,0,none⟩) (512 * nb) cL) pv (.map (some mp)) fu' off')(hf:-1<=fu'/\fu'<=9223372036854775807) :
  DkW X (w.setCell ⟨p,t,none⟩ v) p img ds fu' off' gL cL pv mp nb:=by
 obtain⟨a1,a2,a3,a4⟩:=h.apart
 have k:∀g,g≠p->(w.setCell ⟨p,t,none⟩ v).heap[g]?=w.heap[g]?:=fun g hg=>Below.heap_setCell _ _ _ _ hg
 exact⟨hb,h.own.keep (k _ a1),h.isb,h.lo,h.hi,owns_keep h.row (fun g e=>k g (a2 g e)),fun d hd=>⟨(h.dat d hd).1.keep (k _ (a4 d hd)),(h.dat d hd).2⟩,h.map.keep (k _ a3),h.xp,h.xl,h.xm,h.xr,hf⟩
theorem DkW.setF{ds:List Pw}{nb:Nat}(h:DkW X w p img ds fu off gL cL pv mp nb)(k:Int)(hk:-1<=k/\k<=9223372036854775807):DkW X (w.setCell ⟨p,3,none⟩ (.int .i64 k)) p img ds k off gL cL pv mp nb :=
 h.reblk (by unfold Dkb;simpa using h.blk.set 3 (.int .i64 k)) hk
theorem DkW.setO{ds:List Pw}{nb:Nat}(h:DkW X w p img ds fu off gL cL pv mp nb)(b:Bool):DkW X (w.setCell ⟨p,4,none⟩ (.bool b)) p img ds fu b gL cL pv mp nb :=
 h.reblk (by unfold Dkb;simpa using h.blk.set 4 (.bool b)) h.fus
def burnC (fu:Int):Int:=if fu=0 then 24 else 0
def burnF (fu:Int):Int:=if fu=-1 then -1 else if fu=0 then 0 else fu-1
def burnO (fu:Int) (off:Bool):Bool:=if fu=0 then true else off
theorem goes_any{ds:List Pw}{nb:Nat}(h:DkW X w p img ds fu off gL cL pv mp nb) :
  Calls Tryz.prog 159 #[.pointer (some ⟨p,0,none⟩)] w fun e w'=>e=.returned (.int .i64 (burnC fu))/\(DkW X w' p img ds (burnF fu) (burnO fu off) gL cL pv mp nb/\But (fun x=>x=p) w w'):=by
 have hf:=h.fus
 by_cases h1:fu=-1
 ·subst h1
  refine (goesThrough_none h.blk).mono ?_
  rintro e w' ⟨rfl,rfl⟩
  exact⟨rfl,h,But.refl _ _⟩
 ·by_cases h2:fu=0
  ·subst h2
   refine (goesThrough_zero h.blk).mono ?_
   rintro e w' ⟨rfl,rfl⟩
   exact⟨rfl,h.setO true,(But.refl (fun x=>x=p) w).setCell (p:=⟨p,4,none⟩) (show (fun x=>x=p) p from rfl) _⟩
  ·refine (goesThrough_some (by omega) hf.2 h.blk).mono ?_
   rintro e w' ⟨rfl,rfl⟩
   have e1:burnC fu=0:=if_neg h2
   have e2:burnF fu=fu-1:=by unfold burnF;rw[if_neg h1,if_neg h2]
   have e3:burnO fu off=off:=if_neg h2
   rw[e1,e2,e3]
   exact⟨rfl,h.setF (fu-1) (by omega),(But.refl (fun x=>x=p) w).setCell (p:=⟨p,3,none⟩) (show (fun x=>x=p) p from rfl) _⟩
open Go.RowKit
theorem take_splice(L cs:List α)(h:o+cs.length<=n)(hn:n<=L.length):(L.take o++cs++L.drop (o+cs.length)).take n=splice (L.take n) o cs:=by
 have hA:(L.take n).length=n:=by simp;omega
 have e1:L.take o=(L.take n).take o:=by rw[List.take_take,Nat.min_eq_left (by omega)]
 have e2:L.drop (o+cs.length)=(L.take n).drop (o+cs.length)++L.drop n:=by
  conv=>lhs;rw[<- List.take_append_drop n L]
  rw[List.drop_append_of_le_length (by omega)]
 rw[e1,e2]
 have e3:(L.take n).take o++cs++((L.take n).drop (o+cs.length)++L.drop n)=splice (L.take n) o cs++L.drop n:=by simp[splice]
 have hl:=length_splice (L.take n) o cs (by omega)
 rw[e3,List.take_append_of_le_length (by omega),List.take_of_length_le (by omega)]
theorem copy_own{G cap dLen dCap:Nat}{ad:Addr}{sCap:Nat}{cs:List Int}(h:Own w G n cap zs)(hl:cs.length=m)(hm:m<=dLen)(ho:o+m<=n)(hsrc:∀j v,(cs.map (Value.int .u8))[j]?=some v->w.cell? (ad.add j)=some v) :
  ∃w',(Builtin.copy_ #[65,65] ty #[.slice (some ⟨G,o,none⟩) dLen dCap,.slice (some ad) m sCap]).run Tryz.prog w=.ok (goInt m) w'/\Own w' G n cap (splice zs o cs)/\But (fun x=>x=G) w w':=by
 have hzl:=h.len
 rcases h with ⟨h0,h⟩
 rcases h with ⟨h1,_⟩ | ⟨g',cap',cur,h1,h2,h3,h4,h5,h6,h7⟩
 ·cases h1
 ·cases h1
  have hr:=run_copy_row (P:=Tryz.prog) w 65 65 ty 5 G o dLen dCap ad m sCap cur 5 (cs.map (Value.int .u8)) Tryz.underlying65 size5 h3 (by simp only[List.length_map,hl];exact (Nat.min_eq_left hm).symm) hsrc (by simp only[List.length_map];omega) (u8_one _)
  simp only[List.length_map,hl]at hr
  refine⟨_,hr,⟨?_,.inr ⟨G,cap,_,rfl,Nat.le_refl _,setRow_heap w G cur _ 5 (0,0) h3,h4,h5,?_,?_⟩⟩,⟨rfl,rfl,rfl,by simp[World.setRow],fun k _ hx=>setRow_other w G k _ (by intro e;exact hx e)⟩⟩
  ·rw[List.length_map,length_splice _ _ _ (by omega)]
   omega
  ·have:cur.toList.length=cap:=by simpa using h6
   simp
   omega
  ·have hc:cur.toList.length=cap:=by simpa using h6
   simp only[Nat.mul_one]at h7 ⊢
   have e:=take_splice cur.toList (cs.map (Value.int .u8)) (o:=o) (n:=n) (by simp;omega) (by omega)
   rw[List.length_map,hl,h7]at e
   rw[<- splice_map]
   simpa using e
theorem lay_any{G cap:Nat}(h:Own w G n cap zs)(x:Nat)(ad:Addr)(sc:Nat)(cs:List Int)(hR:Rd w.heap.size w (some ad) 512 cs)(hx:x * 512+512<=n)(hn:n<=268435456) :
  Calls Tryz.prog 160 #[.slice (some ⟨G,0,none⟩) n cap,.agg #[.int .i64 (x:Int),.slice (some ad) 512 sc]] w fun e w'=>e=.returned (.tuple #[])/\Own w' G n cap (splice zs (x * 512) cs)/\But (fun x=>x=G) w w':=by
 have hcap:=h.cap
 have hG:=h.lt
 obtain⟨wa,hwa⟩:∃wa,wa=w.alloc (.cells #[.int .i64 (x:Int),.slice (some ad) 512 sc] 226):=⟨_,rfl⟩
 have hb:Below w.heap.size w wa:=by rw[hwa];exact (Below.refl _ _).alloc (Nat.le_refl _) _
 have q0:wa.cell? ⟨w.heap.size,0,none⟩=some (.int .i64 (x:Int)):=by rw[hwa];exact cell_new rfl 0 _ rfl
 have q1:wa.cell? ⟨w.heap.size,1,none⟩=some (.slice (some ad) 512 sc):=by rw[hwa];exact cell_new rfl 1 _ rfl
 obtain⟨ad',e,hsrc⟩:=(hR.below hb).src (by omega)
 cases e
 obtain⟨w3,hrun,hO,hB⟩:=copy_own (ty:=3) (w:=wa.drew) (o:=x * 512) (dLen:=n-x * 512) (dCap:=cap-x * 512) (sCap:=sc) (h.keep (w':=wa.drew) (hb.block G hG)) hR.1 (by omega) (by omega) hsrc
 have HO:=hid hO
 have HB:=hid (But.of_below hb |>.comp (But.refl (fun _=>False) wa).drew (fun _ _ h=>h.elim) |>.comp hB (fun _ _ h=>h))
 clear hsrc hR hO hB hb
 go_enter Tryz.func160,Tryz.ntmps160
 go_wp2_with fail
 rw[<- hwa]
 clear hwa
 go_region
 go_end0
 exact⟨rfl,HO.out,HB.out⟩
open Go.RowKit
theorem fold_snoc{β:Type}(f:β->α->β)(b:β)(l:List α)(h:k<l.length):(l.take (k+1)).foldl f b=f ((l.take k).foldl f b) l[k]:=by
 rw[List.take_succ_eq_append_getElem h,List.foldl_append]
 rfl
end Go.Proofs.YtlefjidbpjkhlaaGreat
