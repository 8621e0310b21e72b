import Derived.Test.YthfojpcibnfmgaaGreatH33
import Derived.Test.YthfojpcibnfmgaaGreatH38
import Derived.Test.YthfojpcibnfmgaaGreatH01
import Derived.Deep.QuietTactic
import Derived.BigQuiet
set_option maxRecDepth 100000
set_option maxHeartbeats 16000000
namespace Go.Proofs.YthfojpcibnfmgaaGreat
variable {X Y:Nat->Prop}
variable {w w':World}
variable {K L M bl bl2 fr fr2 j k lo m mc n nb nb2 p st t x:Nat}
variable {d:Pd}
variable {s:Js}
variable {o:Option OT}
variable {bv sv tv:Value}
variable {who:Option Bool}
variable {a:Nat->Option Wr}
variable {ss:List Sp}
variable {ms:List Mr}
variable {Ts:List Tn}
variable {N:Int}
variable {zs:List Int}
open Go.RowKit Go.Deep
def PWho (w:World) (j st:Nat) (o:Option OT) (tv:Value):Option Bool->Prop
 | none=>tv=.pointer none
 | some true=>∃q,o=some q/\tv=.pointer (some ⟨q.t,0,none⟩)
 | some false=>∃t,tv=.pointer (some ⟨t,0,none⟩)/\Txb w t j .nilIface st (.pointer none)
theorem StO.ask{c:Nat}(h:StO Y w j c p st nb K fr bl d s o)(hw:PWho w j st o tv who):Calls Tryz.prog 62 #[tv] w fun e w'=>e=.returned (.int .i64 (askW who d.off))/\Below w.heap.size w w':=by
 cases who with
 | none=>
  obtain rfl:=hw
  exact task_nil w
 | some b=>
  obtain⟨Z,hJ,_,hS,_⟩:=h.jq
  cases b with
  | true=>
   obtain⟨q,rfl,rfl⟩:=hw
   obtain⟨_,_,_,_,q1,_,q3,q4,_⟩:=h
   cases ho:d.off with
   | true=>exact task_off q1 ho q3
   | false=>exact task_open q1 ho q3 q4
  | false=>
   obtain⟨t,rfl,ht⟩:=hw
   cases ho:d.off with
   | true=>exact task_off hJ ho ht
   | false=>
    cases o with
    | none=>exact task_over0 hJ ho ht hS
    | some q=>
     obtain⟨_,_,_,_,_,_,q3,_⟩:=h
     refine task_over1 hJ ho ht hS q3 (fun e=>?_)
     unfold Txb at ht q3
     rw[e,ht]at q3
     injection q3 with q3
     injection q3 with q3
     simp at q3
theorem StO.askB{c:Nat}(h:StO Y w j c p st nb K fr bl d s o)(hw:PWho w j st o tv who):∀w',Below w.heap.size w w'->Calls Tryz.prog 62 #[tv] w' fun e w2=>e=.returned (.int .i64 (askW who d.off))/\Below w'.heap.size w' w2:=fun w' b=>by
 refine (h.below b).ask (who:=who) ?_
 cases who with
 | none=>exact hw
 | some b'=>
  cases b' with
  | true=>exact hw
  | false=>
   obtain⟨t,e,ht⟩:=hw
   exact⟨t,e,ht.keep (b.block t ht.lt)⟩
theorem StO.open2{c:Nat}(h:StO Y w j c p st nb K fr bl d s o):∃Z,Jq Z w j c p 4 nb K fr bl d s/\∀w' K' d' s' Z',Jq Z' w' j c p 4 nb K' fr bl d' s'->Gr Z Z' w->But Z w w'->∃Y',StO Y' w' j c p st nb K' fr bl d' s' o/\(∀g,w.heap.size<=g->¬Z' g->¬Y' g)/\(∀k,Y' k->k<w'.heap.size)/\Gr Y Y' w/\But Y w w':=by
 cases o with
 | none=>
  obtain⟨Z,h1,h2,h3,h4,h5⟩:=h
  refine⟨Z,h1,fun w' K' d' s' Z' q1 q2 q3=>?_⟩
  have hs:=q3.size
  exact⟨growZ Y Z' w w',⟨fun k=>Z' k/\k<w'.heap.size,q1.cut,fun k e=>growZ.of h2 q2 e.1 e.2,h3.keep (q3.block st h3.lt h4),fun e=>h4 (q2 st h3.lt e.1),.inl ⟨h5,h3.lt⟩⟩,fun g hg n q=>Or.elim q (fun e=>absurd e.2 (by omega)) (fun e=>n e.1),fun k q=>by rcases q with q | q <;> omega,growZ.gr _ _ _ _,q3.mono (fun k _ e=>h2 k e)⟩
 | some o=>
  obtain⟨Z,Zw,sv,mv,q1,q2,q3,q4,q5,q6,q8,q9,q10⟩:=h
  refine⟨Z,q1,fun w' K' d' s' Z' r1 r2 r3=>?_⟩
  have hs:=r3.size
  have ht:=q3.lt
  have hst:=q4.lt
  refine⟨growZ Y Z' w w',⟨fun k=>Z' k/\k<w'.heap.size,fun k=>Zw k/\k<w.heap.size,sv,mv,r1.cut,q2.cut.but r3 (fun k _ e=>(q6 k e.1).2),q3.keep (r3.block _ ht q9.1),q4.keep (r3.block st hst q10.1),fun k e=>growZ.of q5 r2 e.1 e.2,fun k e=>⟨.inl ⟨(q6 k e.1).1,e.2⟩,fun e2=>(q6 k e.1).2 (r2 k e.2 e2.1)⟩,q8,⟨fun e=>q9.1 (r2 _ ht e.1),fun e=>q9.2.1 e.1,.inl ⟨q9.2.2,ht⟩⟩,⟨fun e=>q10.1 (r2 st hst e.1),fun e=>q10.2.1 e.1,.inl ⟨q10.2.2,hst⟩⟩⟩,fun g hg n q=>Or.elim q (fun e=>absurd e.2 (by omega)) (fun e=>n e.1),fun k q=>by rcases q with q | q <;> omega,growZ.gr _ _ _ _,r3.mono (fun k _ e=>q5 k e)⟩
theorem StO.low{c:Nat}(h:StO Y w j c p st nb K fr bl d s o)(b:Below w.heap.size w w'):∃Y',StO Y' w' j c p st nb (K+1) fr bl d s o/\(∀g,w.heap.size<=g->¬Y' g)/\(∀k,Y' k->k<w'.heap.size)/\Gr Y Y' w/\But Y w w':=by
 obtain⟨Z,hJ,hcl⟩:=h.open2
 obtain⟨Y',q1,q2,q3⟩:=hcl w' (K+1) d s (fun k=>Z k/\k<w.heap.size) ((hJ.cut.below b).mono (fun _ q=>q) (by omega)) (fun k _ q=>q.1) (But.of_below b)
 exact⟨Y',q1,fun g hg=>q2 g hg (fun e=>by omega),q3⟩
def RdV (w w':World) (Y':Nat->Prop) (v:Value) (zs:List Int):Prop:=(v=.slice none 0 0/\zs=[])\/∃g cp,v=.slice (some ⟨g,0,none⟩) 512 cp/\w.heap.size<=g/\Own w' g 512 cp zs/\Pl.isB zs/\¬Y' g
def prC (nb fr bl:Nat) (d:Pd) (s:Js) (y:Int):List Int×Int:=if d.off then ([],24) else if homeC nb fr bl y≠0 then ([],42) else (jread d s y.toNat,0)
theorem StO.read{c:Nat}(h:StO Y w j c p st nb K fr bl d s o)(h1:fr+bl<=nb)(hl:d.puts.length<=1073741824)(hK:K<4611686018427387904)(y:Int) :
  Calls Tryz.prog 27 #[.pointer (some ⟨st,0,none⟩),.int .i64 y] w fun e w'=>∃v Y',e=.returned (.tuple #[v,.int .i64 (prC nb fr bl d s y).2])/\StO Y' w' j c p st nb (K+1) fr bl d s o/\RdV w w' Y' v (prC nb fr bl d s y).1/\(∀k,Y' k->k<w'.heap.size)/\Gr Y Y' w/\But Y w w':=by
 obtain⟨Z0,hJ0,_,hS,_⟩:=h.jq
 unfold prC
 cases ho:d.off with
 | true=>
  have HA:=sask_any hJ0 hS
  rw[ho]at HA
  refine Calls.mono (sread_no HA (by decide) y) ?_
  rintro e w' ⟨rfl,b⟩
  obtain⟨Y',q1,_,q3⟩:=h.low b
  exact⟨_,Y',rfl,q1,.inl ⟨rfl,rfl⟩,q3⟩
 | false=>
  by_cases hh:homeC nb fr bl y=0
  ·obtain⟨yn,rfl,hyn⟩:=home_nat hh
   obtain⟨Z,hJ,hcl⟩:=h.open2
   refine Calls.mono (sread_home hJ h1 ho hl hK yn hyn hh hS) ?_
   rintro e w' ⟨g,cp,rfl,r1,r2,r3,⟨Z',r4,r5,r6⟩,r7⟩
   obtain⟨Y',q1,q2,q3⟩:=hcl w' _ _ _ Z' r4 r5 r7
   refine⟨_,Y',by simp[hh],q1,.inr ⟨g,cp,rfl,r1,?_,?_,q2 g r1 r6⟩,q3⟩
   ·simpa [hh] using r2
   ·simpa [hh] using r3
  ·refine Calls.mono (sread_far hJ0 h1 ho y hh hS) ?_
   rintro e w' ⟨rfl,b⟩
   obtain⟨Y',q1,_,q3⟩:=h.low b
   exact⟨_,Y',by simp[hh],q1,.inl ⟨rfl,by simp[hh]⟩,q3⟩
def ptC (nb fr bl:Nat) (d:Pd) (s:Js) (o:Option OT) (who:Option Bool) (y:Int):List Int×Int:=if askW who d.off≠0 then ([],askW who d.off) else if homeC nb fr bl y≠0 then ([],42) else (match o with
 | some q=>((LofA q.a q.val y.toNat).getD (jread d s y.toNat),0)
 | none=>([],0))
theorem StO.tread{c:Nat}(h:StO Y w j c p st nb K fr bl d s o)(h1:fr+bl<=nb)(hl:d.puts.length<=1073741824)(hK:K<4611686018427387904)(hnb:nb<=524288)(hw:PWho w j st o tv who)(y:Int)(hy1:-9223372036854775808<=y)(hy2:y<=9223372036854775807) :
  Calls Tryz.prog 28 #[tv,.int .i64 y] w fun e w'=>∃v Y',e=.returned (.tuple #[v,.int .i64 (ptC nb fr bl d s o who y).2])/\StO Y' w' j c p st nb (K+1) fr bl d s o/\RdV w w' Y' v (ptC nb fr bl d s o who y).1/\(∀k,Y' k->k<w'.heap.size)/\Gr Y Y' w/\But Y w w':=by
 have HS:=h.ask hw
 unfold ptC
 by_cases hc:askW who d.off=0
 ·obtain⟨rfl,ho⟩:=askW_zero hc
  obtain⟨q,rfl,rfl⟩:=hw
  by_cases hh:homeC nb fr bl y=0
  ·obtain⟨yn,rfl,hyn⟩:=home_nat hh
   have h0:=h
   obtain⟨Z,Zw,sv,mv,q1,q2,q3,q4,q5,q6,q8,q9,q10⟩:=h
   obtain⟨D,hWq⟩:=q2.wq
   refine Calls.mono (tread_home q1 hWq h1 ho hl hK hnb yn hyn hh q3 q4) ?_
   rintro e w' ⟨g,cp,rfl,r1,r2,r3,⟨Z',r4,r5,r6⟩,r7⟩
   have hs:=r7.size
   have ht:=q3.lt
   have hst:=q4.lt
   refine⟨_,growZ Y Z' w w',by simp[hc,hh],⟨fun k=>Z' k/\k<w'.heap.size,fun k=>Zw k/\k<w.heap.size,sv,mv,r4.cut,q2.cut.but r7 (fun k _ e=>(q6 k e.1).2),q3.keep (r7.block _ ht q9.1),q4.keep (r7.block st hst q10.1),fun k e=>growZ.of q5 r5 e.1 e.2,fun k e=>⟨.inl ⟨(q6 k e.1).1,e.2⟩,fun e2=>(q6 k e.1).2 (r5 k e.2 e2.1)⟩,q8,⟨fun e=>q9.1 (r5 _ ht e.1),fun e=>q9.2.1 e.1,.inl ⟨q9.2.2,ht⟩⟩,⟨fun e=>q10.1 (r5 st hst e.1),fun e=>q10.2.1 e.1,.inl ⟨q10.2.2,hst⟩⟩⟩,.inr ⟨g,cp,rfl,r1,by simpa [hc,hh] using r2,by simpa [hc,hh] using r3,fun q=>Or.elim q (fun e=>absurd e.2 (by omega)) (fun e=>r6 e.1)⟩,fun k q=>by rcases q with q | q <;> omega,growZ.gr _ _ _ _,r7.mono (fun k _ e=>q5 k e)⟩
  ·have h0:=h
   obtain⟨Z,Zw,sv,mv,q1,q2,q3,q4,q5,q6,q8,q9,q10⟩:=h
   obtain⟨D,hWq⟩:=q2.wq
   refine Calls.mono (tread_far q1 hWq h1 ho y hy1 hy2 hh q3 q4) ?_
   rintro e w' ⟨rfl,b⟩
   obtain⟨Y',r1,_,r3⟩:=h0.low b
   exact⟨_,Y',by simp[hc,hh],r1,.inl ⟨rfl,by simp[hc,hh]⟩,r3⟩
 ·refine Calls.mono (tread_no HS (ne_bne hc) y) ?_
  rintro e w' ⟨rfl,b⟩
  obtain⟨Y',r1,_,r3⟩:=h.low b
  exact⟨_,Y',by simp[hc],r1,.inl ⟨rfl,by simp[hc]⟩,r3⟩
theorem StO.write{c:Nat}(h:StO Y w j c p st nb K fr bl d s o)(h1:fr+bl<=nb)(hl:d.puts.length<=1073741824)(hK:K<4611686018427387904)(hnb:nb<=524288)(hn:∀q,o=some q->q.n<=1073741823/\q.ss.length<=1073741823)(hw:PWho w j st o tv who)(y:Int)(hy1:-9223372036854775808<=y)(hy2:y<=9223372036854775807)(xa:Option Addr)(xn xc:Nat)(zs:List Int)(hR:RdN Y w xa xn zs) :
  Calls Tryz.prog 32 #[tv,.int .i64 y,.slice xa xn xc] w fun e w'=>∃Y' o',e=.returned (.int .i64 (wrC nb fr bl d.off who y xn))/\StO Y' w' j c p st nb (K+1) fr bl d s o'/\(wrC nb fr bl d.off who y xn≠0->o'=o)/\(wrC nb fr bl d.off who y xn=0->∃q a' ss' val',o=some q/\o'=some { q with n:=q.n+1,a:=a',ss:=ss',val:=val' }/\LofA a' val'=putL (LofA q.a q.val) y.toNat zs/\(∀(i p:Nat) (b:Nat->Option Wr),q.ms[i]?=some (p,b)->LofA b val'=LofA b q.val)/\ss'.length<=q.ss.length+1)/\(∀k,Y' k->k<w'.heap.size)/\Gr Y Y' w/\But Y w w':=by
 have HS:=h.ask hw
 unfold wrC
 by_cases hc:askW who d.off=0
 ·obtain⟨rfl,ho⟩:=askW_zero hc
  obtain⟨q,rfl,rfl⟩:=hw
  have h0:=h
  obtain⟨Z,Zw,sv,mv,q1,q2,q3,q4,q5,q6,q8,q9,q10⟩:=h0
  obtain⟨D,hWq⟩:=q2.wq
  by_cases hh:homeC nb fr bl y=0
  ·obtain⟨yn,rfl,hyn⟩:=home_nat hh
   by_cases hx:xn=512
   ·subst hx
    obtain⟨ad,rfl⟩:∃ad,xa=some ad:=by
     rcases hR.2.2 with q0 | ⟨b,off,e,_⟩
     ·exact absurd q0 (by decide)
     ·exact⟨_,e⟩
    refine Calls.mono (StM.write h (hn q rfl).1 (hn q rfl).2 h1 ho hl hK hnb yn hyn hh ad xc zs (fun w' b=>(hR.but b).rd)) ?_
    rintro e w' ⟨rfl,Y',a',ss',val',r1,r2,r3,r4,r5,r6,r7⟩
    exact⟨Y',some { q with n:=q.n+1,a:=a',ss:=ss',val:=val' },by simp[hc,hh],r1,fun e=>absurd (by simp[hc,hh]) e,fun _=>⟨q,a',ss',val',rfl,rfl,r2,r3,r4⟩,r5,r6,r7⟩
   ·obtain⟨Z0,hJ,hcl⟩:=h.open2
    refine Calls.mono (twrite_len hJ hWq h1 ho hl hK hnb yn hyn hh q3 q4 xa xn xc hx) ?_
    rintro e w' ⟨rfl,⟨Z',r1,r2⟩,r3⟩
    obtain⟨Y',s1,_,s3⟩:=hcl w' _ _ _ Z' r1 r2 r3
    refine⟨Y',some q,by simp[hc,hh,hx],s1,fun _=>rfl,fun e=>?_,s3⟩
    simp[hc,hh,hx]at e
  ·refine Calls.mono (twrite_far q1 hWq h1 ho y hy1 hy2 hh q3 q4 _) ?_
   rintro e w' ⟨rfl,b⟩
   obtain⟨Y',r1,_,r3⟩:=h.low b
   refine⟨Y',some q,by simp[hc,hh],r1,fun _=>rfl,fun e=>?_,r3⟩
   simp[hc,hh]at e
 ·refine Calls.mono (twrite_no HS (ne_bne hc) y _) ?_
  rintro e w' ⟨rfl,b⟩
  obtain⟨Y',r1,_,r3⟩:=h.low b
  refine⟨Y',o,by simp[hc],r1,fun _=>rfl,fun e=>?_,r3⟩
  simp[hc]at e
open Go.RowKit Go.Deep
def msOf (o:Option OT):List Mr:=match o with
 | some q=>q.ms
 | none=>[]
theorem StO.mark{c:Nat}(h:StO Y w j c p st nb K fr bl d s o)(hM:∀q,o=some q->q.ms.length<=1073741823)(hw:PWho w j st o tv who) :
  Calls Tryz.prog 29 #[tv] w fun e w'=>∃Y' o',e=.returned (.tuple #[.int .i64 (if askW who d.off≠0 then 0 else ((msOf o).length:Int)),.int .i64 (askW who d.off)])/\StO Y' w' j c p st nb K fr bl d s o'/\(askW who d.off≠0->o'=o)/\(askW who d.off=0->∃q,o=some q/\o'=some { q with ms:=q.ms++[(q.ss.length,q.a)] })/\(∀k,Y' k->k<w'.heap.size)/\Gr Y Y' w/\But Y w w':=by
 have HS:=h.ask hw
 by_cases hc:askW who d.off=0
 ·obtain⟨rfl,ho⟩:=askW_zero hc
  obtain⟨q,rfl,rfl⟩:=hw
  refine Calls.mono (StM.mark h ho (hM q rfl)) ?_
  rintro e w' ⟨rfl,Y',r1,r2⟩
  exact⟨Y',some { q with ms:=q.ms++[(q.ss.length,q.a)] },by simp[hc,msOf],r1,fun e=>absurd hc e,fun _=>⟨q,rfl,rfl⟩,r2⟩
 ·refine Calls.mono (tmark_no HS (ne_bne hc)) ?_
  rintro e w' ⟨rfl,b⟩
  exact⟨fun k=>Y k/\k<w.heap.size,o,by simp[hc],h.cut.below b,fun _=>rfl,fun e=>absurd e hc,fun k e=>Nat.lt_of_lt_of_le e.2 b.size,fun k _ e=>e.1,But.of_below b⟩
theorem hasMark_neg{ma:Option Addr}(_hx:Xb w x j m sv (.slice ma M mc))(k:Int)(hk:k<0) :
  Calls Tryz.prog 66 #[.pointer (some ⟨x,0,none⟩),.int .i64 k] w fun e w'=>e=.returned (.bool false)/\w'=w:=by
 have hk0:¬(0:Int)<=k:=by omega
 go_enter Tryz.func66,Tryz.ntmps66
 go_wp2
 go_ret
 exact⟨rfl,rfl⟩
theorem StM.backFar{c:Nat}{val:Nat->List Int}(h:StM Y w j c p st nb K fr bl d s t x m n a ss ms val)(hon:d.off=false)(k:Int)(hk:k<0\/(ms.length:Int)<=k) :
  Calls Tryz.prog 33 #[.pointer (some ⟨t,0,none⟩),.int .i64 k] w fun e w'=>e=.returned (.int .i64 52)/\Below w.heap.size w w':=by
 obtain⟨PO,hPO⟩:∃PO:Ending->World->Prop,PO=fun e w'=>e=.returned (.int .i64 52)/\Below w.heap.size w w':=⟨_,rfl⟩
 by_cases hk0:k<0
 ·rw[<- hPO]
  obtain⟨Z,Zw,sv,mv,q1,q2,q3,q4,q5,q6,q8,q9,q10⟩:=h
  have HA:=hid (task_open q1 hon q3 q4)
  have HM:Hid (∀w1,Below w.heap.size w w1->w1.cell? ⟨t,3,none⟩=some (.pointer (some ⟨x,0,none⟩))/\(Calls Tryz.prog 66 #[.pointer (some ⟨x,0,none⟩),.int .i64 k] w1 fun e w'=>e=.returned (.bool false)/\w'=w1)/\PO (.returned (.int .i64 52)) w1):=fun w1 b1=>by
   have hW1:Wm (fun k=>Zw k/\k<w.heap.size) w1 x j m n nb fr bl a sv mv ss ms val:=q2.keepZ (fun k _ hk=>b1.block k hk) (fun k q hk=>⟨q,hk⟩)
   obtain⟨ma,mc,hmv,_⟩:=owns_slice hW1.mr
   have hx:=hW1.blk
   rw[hmv]at hx
   refine⟨(b1.cell (p:=⟨t,3,none⟩) q3.lt).trans (q3.cell 3),hasMark_neg hx k hk0,?_⟩
   rw[hPO]
   exact⟨rfl,b1⟩
  clear q1 q2 q3 q4 hPO q5 q6 q8 q9 q10 hk
  go_enter Tryz.func33,Tryz.ntmps33
  go_wp2_with fail
  refine Calls.mono HA.out ?_
  rintro e w1 ⟨rfl,b1⟩
  obtain⟨k3,hh,hF⟩:=HM.out w1 b1
  have HH:=hid hh
  have FIN:=hid hF
  clear b1 HA HM hF hh
  go_wp2_with fail
  refine Calls.mono HH.out ?_
  rintro e w2 ⟨rfl,hw2⟩
  rw[hw2]
  clear hw2 HH
  go_wp2_with fail
  exact FIN.out
 ·obtain⟨kn,rfl⟩:∃kn:Nat,k=(kn:Int):=⟨k.toNat,by omega⟩
  exact StM.backNo h hon kn (by omega)
theorem StO.back{c:Nat}(h:StO Y w j c p st nb K fr bl d s o)(hnb:nb<=524288)(hM:∀q,o=some q->q.n+q.ss.length<=1073741823/\q.ms.length<=1073741823)(hw:PWho w j st o tv who)(k:Int) :
  Calls Tryz.prog 33 #[tv,.int .i64 k] w fun e w'=>∃Y' o',e=.returned (.int .i64 (bkC d.off who (msOf o).length k))/\StO Y' w' j c p st nb K fr bl d s o'/\(bkC d.off who (msOf o).length k≠0->o'=o)/\(bkC d.off who (msOf o).length k=0->∃q kn n' pp b,o=some q/\k=((kn:Nat):Int)/\q.ms[kn]?=some (pp,b)/\n'+pp<=q.n+q.ss.length/\o'=some { q with n:=n',a:=b,ss:=q.ss.take pp,ms:=q.ms.take (kn+1) })/\(∀k,Y' k->k<w'.heap.size)/\Gr Y Y' w/\But Y w w':=by
 have HS:=h.ask hw
 unfold bkC
 by_cases hc:askW who d.off=0
 ·obtain⟨rfl,ho⟩:=askW_zero hc
  obtain⟨q,rfl,rfl⟩:=hw
  have hms:msOf (some q)=q.ms:=rfl
  rw[hms]
  by_cases hk:k<0\/(q.ms.length:Int)<=k
  ·refine Calls.mono (StM.backFar h ho k hk) ?_
   rintro e w' ⟨rfl,b⟩
   have hz:(if askW (some true) d.off≠0 then askW (some true) d.off else if k<0\/(q.ms.length:Int)<=k then 52 else 0)=52:=by rw[if_neg (by rw[hc];decide),if_pos hk]
   rw[hz]
   exact⟨fun k=>Y k/\k<w.heap.size,some q,rfl,h.cut.below b,fun _=>rfl,fun e=>absurd e (by decide),fun k e=>Nat.lt_of_lt_of_le e.2 b.size,fun k _ e=>e.1,But.of_below b⟩
  ·obtain⟨kn,rfl⟩:∃kn:Nat,k=(kn:Int):=⟨k.toNat,by omega⟩
   have hkn:kn<q.ms.length:=by omega
   obtain⟨⟨pp,b⟩,hp⟩:∃r,q.ms[kn]?=some r:=⟨_,List.getElem?_eq_getElem hkn⟩
   have hz:(if askW (some true) d.off≠0 then askW (some true) d.off else if (kn:Int)<0\/(q.ms.length:Int)<=(kn:Int) then 52 else 0)=0:=by rw[if_neg (by rw[hc];decide),if_neg hk]
   rw[hz]
   refine Calls.mono (StM.back h ho (hM q rfl).1 (hM q rfl).2 hnb kn pp b hp) ?_
   rintro e w' ⟨rfl,Y',n',r1,r2,r3⟩
   exact⟨Y',some { q with n:=n',a:=b,ss:=q.ss.take pp,ms:=q.ms.take (kn+1) },rfl,r2,fun e=>absurd rfl e,fun _=>⟨q,kn,n',pp,b,rfl,rfl,hp,r1,rfl⟩,r3⟩
 ·refine Calls.mono (tback_no HS (ne_bne hc) k) ?_
  rintro e w' ⟨rfl,b⟩
  rw[if_pos hc]
  exact⟨fun k=>Y k/\k<w.heap.size,o,rfl,h.cut.below b,fun _=>rfl,fun e=>absurd e hc,fun k e=>Nat.lt_of_lt_of_le e.2 b.size,fun k _ e=>e.1,But.of_below b⟩
theorem StO.abort{c:Nat}(h:StO Y w j c p st nb K fr bl d s o)(hw:PWho w j st o tv who) :
  Calls Tryz.prog 35 #[tv] w fun e w'=>∃Y' o',e=.returned (.int .i64 (askW who d.off))/\StO Y' w' j c p st nb K fr bl d s o'/\(askW who d.off≠0->o'=o)/\(askW who d.off=0->∃q,o=some q/\o'=none/\Txb w' q.t j .nilIface st (.pointer none)/\¬Y' q.t)/\(∀k,Y' k->k<w'.heap.size)/\Gr Y Y' w/\But Y w w':=by
 have HS:=h.ask hw
 by_cases hc:askW who d.off=0
 ·obtain⟨rfl,ho⟩:=askW_zero hc
  obtain⟨q,rfl,rfl⟩:=hw
  refine Calls.mono (StM.abort2 h ho) ?_
  rintro e w' ⟨Y',rfl,r1,r2,r3,r4⟩
  exact⟨Y',none,by rw[hc],r1,fun e=>absurd hc e,fun _=>⟨q,rfl,rfl,r2,r3⟩,r4⟩
 ·refine Calls.mono (tabort_no HS (ne_bne hc)) ?_
  rintro e w' ⟨rfl,b⟩
  exact⟨fun k=>Y k/\k<w.heap.size,o,rfl,h.cut.below b,fun _=>rfl,fun e=>absurd e hc,fun k e=>Nat.lt_of_lt_of_le e.2 b.size,fun k _ e=>e.1,But.of_below b⟩
theorem StO.commit{c:Nat}(h:StO Y w j c p st nb K fr bl d s o)(hlo:16<=bl)(hfit:fr+bl<=nb)(hnb:nb<=524288)(hw:PWho w j st o tv who){ps:List Pu}(hq:∀q,o=some q->Lku nb fr bl (LofA q.a q.val) ps){home:Nat->List Int}(hon:d.off=false->d.fu=-1/\On d s nb fr bl lo home Ts)(hT:Ts.length<1099511627776) :
  Calls Tryz.prog 34 #[tv] w fun e w'=>∃Y' o' d' s',e=.returned (.int .i64 (cmC bl d.off who ps))/\StO Y' w' j c p st nb K fr bl d' s' o'/\d'.off=d.off/\(askW who d.off≠0->o'=o/\d'=d/\s'=s)/\(askW who d.off=0->∃q,o=some q/\o'=none/\Txb w' q.t j .nilIface st (.pointer none)/\¬Y' q.t/\d'.fu=-1/\((bl / 2-4<cntU ps ps.length/\d'=d/\s'=s)\/(cntU ps ps.length<=bl / 2-4/\∃Ts',On d' s' nb fr bl lo home Ts'/\Ts'.length<=Ts.length+1/\∀y,y<nb->contT home Ts' Ts'.length y=(LofA q.a q.val y).getD (contT home Ts Ts.length y))))/\(∀k,Y' k->k<w'.heap.size)/\Gr Y Y' w/\But Y w w':=by
 have HS:=h.ask hw
 unfold cmC
 by_cases hc:askW who d.off=0
 ·obtain⟨rfl,ho⟩:=askW_zero hc
  obtain⟨q,rfl,rfl⟩:=hw
  have hL:=hq q rfl
  obtain⟨hfu,hO⟩:=hon ho
  by_cases hlg:bl / 2-4<cntU ps ps.length
  ·refine Calls.mono (StM.commitLarge h hO hlo hfit hnb (by rw[hL.count];exact hlg) hL.keys) ?_
   rintro e w' ⟨Y',rfl,r1,r2,r3,r4⟩
   exact⟨Y',none,d,s,by rw[if_neg (by rw[hc];decide),if_pos hlg],r1,rfl,fun e=>absurd hc e,fun _=>⟨q,rfl,rfl,r2,r3,hfu,.inl ⟨hlg,rfl,rfl⟩⟩,r4⟩
  ·refine Calls.mono (StM.commit2 h hO hfu hlo hfit hnb hT (by rw[hL.count];omega) hL.keys) ?_
   rintro e w' ⟨Y',d',s',Ts',rfl,r1,r2,r3,r4,r5,r6,r7,r8⟩
   exact⟨Y',none,d',s',by rw[if_neg (by rw[hc];decide),if_neg hlg],r1,by rw[r3.on,ho],fun e=>absurd hc e,fun _=>⟨q,rfl,rfl,r6,r7,r2,.inr ⟨by omega,Ts',r3,r4,r5⟩⟩,r8⟩
 ·refine Calls.mono (tcommit_no HS (ne_bne hc)) ?_
  rintro e w' ⟨rfl,b⟩
  exact⟨fun k=>Y k/\k<w.heap.size,o,d,s,by rw[if_pos hc],h.cut.below b,rfl,fun _=>⟨rfl,rfl,rfl⟩,fun e=>absurd e hc,fun k e=>Nat.lt_of_lt_of_le e.2 b.size,fun k _ e=>e.1,But.of_below b⟩
theorem StO.begin{c:Nat}(h:StO Y w j c p st nb K fr bl d s o) :
  Calls Tryz.prog 26 #[.pointer (some ⟨st,0,none⟩)] w fun e w'=>∃tv Y' o',e=.returned (.tuple #[tv,.int .i64 (bgC d.off o.isSome)])/\StO Y' w' j c p st nb K fr bl d s o'/\(bgC d.off o.isSome≠0->o'=o/\tv=.pointer none)/\(bgC d.off o.isSome=0->o=none/\∃t x m,o'=some ⟨t,x,m,0,fun _=>none,[],[],fun _=>[]⟩/\tv=.pointer (some ⟨t,0,none⟩)/\w.heap.size<=t)/\(∀k,Y' k->k<w'.heap.size)/\Gr Y Y' w/\But Y w w':=by
 obtain⟨Z,hJ,_,hS,_⟩:=h.jq
 unfold bgC
 cases ho:d.off with
 | true=>
  have HA:=sask_any hJ hS
  rw[ho]at HA
  refine Calls.mono (sbegin_no HA (by decide)) ?_
  rintro e w' ⟨rfl,b⟩
  exact⟨_,fun k=>Y k/\k<w.heap.size,o,rfl,h.cut.below b,fun _=>⟨rfl,rfl⟩,fun e=>(by simp at e),fun k e=>Nat.lt_of_lt_of_le e.2 b.size,fun k _ e=>e.1,But.of_below b⟩
 | false=>
  cases o with
  | none=>
   refine Calls.mono (StA.begin2 h ho) ?_
   rintro e w' ⟨t,x,m,Y',rfl,r1,r2,r3⟩
   exact⟨_,Y',some ⟨t,x,m,0,fun _=>none,[],[],fun _=>[]⟩,rfl,r1,fun e=>absurd rfl e,fun _=>⟨rfl,t,x,m,rfl,rfl,r2⟩,r3⟩
  | some q=>
   refine Calls.mono (sbegin_open hJ ho hS) ?_
   rintro e w' ⟨rfl,b⟩
   exact⟨_,fun k=>Y k/\k<w.heap.size,some q,rfl,h.cut.below b,fun _=>⟨rfl,rfl⟩,fun e=>(by simp at e),fun k e=>Nat.lt_of_lt_of_le e.2 b.size,fun k _ e=>e.1,But.of_below b⟩
theorem StO.flushOff{c:Nat}(h:StO Y w j c p st nb K fr bl d s o)(ho:d.off=true) :
  Calls Tryz.prog 30 #[.pointer (some ⟨st,0,none⟩)] w fun e w'=>e=.returned (.int .i64 24)/\Below w.heap.size w w':=by
 obtain⟨Z,hJ,_,hS,_⟩:=h.jq
 have HA:=sask_any hJ hS
 rw[ho]at HA
 exact sflush_no HA (by decide)
theorem StO.owns{c:Nat}(h:StO Y w j c p st nb K fr bl d s o)(hw:PWho w j st o tv who) :
  Calls Tryz.prog 31 #[.pointer (some ⟨st,0,none⟩),tv] w fun e w'=>e=.returned (.int .i64 (askW who d.off))/\Below w.heap.size w w':=by
 obtain⟨Z,hJ,_,hS,_⟩:=h.jq
 cases who with
 | none=>
  obtain rfl:=hw
  exact sowns_nil w _
 | some b=>
  have HB:=h.askB hw
  have ht:∃t fv wv,tv=.pointer (some ⟨t,0,none⟩)/\Txb w t j fv st wv:=by
   cases b with
   | true=>
    obtain⟨q,rfl,e⟩:=hw
    obtain⟨_,_,_,_,_,_,q3,_⟩:=h
    exact⟨q.t,_,_,e,q3⟩
   | false=>
    obtain⟨t,e,ht⟩:=hw
    exact⟨t,_,_,e,ht⟩
  obtain⟨t,fv,wv,rfl,ht⟩:=ht
  cases ho:d.off with
  | true=>exact sowns_off hJ ho hS _
  | false=>
   rw[ho]at HB
   exact sowns_own hJ ho hS ht HB
theorem StO.owns2{c:Nat}(h:StO Y w j c p st nb K fr bl d s o){Y2:Nat->Prop}{j2 c2 p2 st2 K2:Nat}{d2:Pd}{s2:Js}{o2:Option OT}(h2:StO Y2 w j2 c2 p2 st2 nb2 K2 fr2 bl2 d2 s2 o2)(hne:st2≠st)(hw:PWho w j2 st2 o2 tv who) :
  Calls Tryz.prog 31 #[.pointer (some ⟨st,0,none⟩),tv] w fun e w'=>e=.returned (.int .i64 (if who=none then 1 else if d.off then 24 else 53))/\Below w.heap.size w w':=by
 obtain⟨Z,hJ,_,hS,_⟩:=h.jq
 obtain⟨Z2,hJ2,_,hS2,_⟩:=h2.jq
 cases who with
 | none=>
  obtain rfl:=hw
  exact sowns_nil w _
 | some b=>
  have ht:∃t fv wv,tv=.pointer (some ⟨t,0,none⟩)/\Txb w t j2 fv st2 wv:=by
   cases b with
   | true=>
    obtain⟨q,rfl,e⟩:=hw
    obtain⟨_,_,_,_,_,_,q3,_⟩:=h2
    exact⟨q.t,_,_,e,q3⟩
   | false=>
    obtain⟨t,e,ht⟩:=hw
    exact⟨t,_,_,e,ht⟩
  obtain⟨t,fv,wv,rfl,ht⟩:=ht
  cases ho:d.off with
  | true=>exact sowns_off hJ ho hS _
  | false=>exact sowns_other hJ ho hS ht hS2 hne
open Go.RowKit
abbrev DV:=Value×Value×Value×Value×Value
def Lnd (D:DV) (w:World) (L:Nat) (bv:Value) (N:Int):Prop:=w.heap[L]?=some (.cells #[D.1,D.2.1,D.2.2.1,D.2.2.2.1,D.2.2.2.2,bv,.int .i64 N] 58 (0,0))
theorem Lnd.lt{D:DV}(h:Lnd D w L bv N):L<w.heap.size:=(Array.getElem?_eq_some_iff.1 h).1
theorem Lnd.buf{D:DV}(h:Lnd D w L bv N):w.cell? ⟨L,5,none⟩=some bv:=by unfold Lnd at h;simp[World.cell?,h]
theorem Lnd.num{D:DV}(h:Lnd D w L bv N):w.cell? ⟨L,6,none⟩=some (.int .i64 N):=by unfold Lnd at h;simp[World.cell?,h]
theorem Lnd.frozen{D:DV}(h:Lnd D w L bv N)(t:Nat):w.frozen? ⟨L,t,none⟩=false:=by unfold Lnd at h;simp[World.frozen?,h]
theorem Lnd.of_block{D:DV}(h:Lnd D w L bv N)(hw:w'.heap[L]?=w.heap[L]?):Lnd D w' L bv N:=by unfold Lnd at *;rw[hw];exact h
theorem Lnd.setOther{D:DV}(h:Lnd D w L bv N){p:Addr}(hp:L≠p.block)(u:Value):Lnd D (w.setCell p u) L bv N:=h.of_block (Below.heap_setCell _ _ _ _ hp)
theorem Lnd.alloc{D:DV}(h:Lnd D w L bv N)(o:Obj):Lnd D (w.alloc o) L bv N:=h.of_block (Below.heap_alloc _ _ _ h.lt)
theorem Lnd.setBuf{D:DV}(h:Lnd D w L bv N)(u:Value):Lnd D (w.setCell ⟨L,5,none⟩ u) L u N:=by
 unfold Lnd at *
 simp only[World.setCell,Array.getElem?_modify]
 rw[h]
 simp
theorem Lnd.setNum{D:DV}(h:Lnd D w L bv N)(u:Int):Lnd D (w.setCell ⟨L,6,none⟩ (.int .i64 u)) L bv u:=by
 unfold Lnd at *
 simp only[World.setCell,Array.getElem?_modify]
 rw[h]
 simp
def mk (i:Nat):Int:=(203-5 * (i:Int)) % 256
def lent (zs:List Int):List Int:=zs++(List.range (zs.length+70)).map fun i=>mk (zs.length+i)
theorem length_lent(zs:List Int):(lent zs).length=2 * zs.length+70:=by simp[lent];omega
theorem lent_lo(h:k<zs.length):(lent zs).getD k 0=zs.getD k 0:=by
 simp[lent,h,List.getElem?_append_left]
theorem lent_hi(h:zs.length<=k)(h2:k<2 * zs.length+70):(lent zs).getD k 0=mk k:=by
 have h3:k-zs.length<zs.length+70:=by omega
 simp[lent,List.getElem?_append_right h,h3]
 congr 1
 omega
theorem mark_any(p:Value)(i:Nat)(w:World)(h:i<=1073741824) :
  Calls Tryz.prog 146 #[p,.int .i64 (i:Int)] w fun e w'=>e=.returned (.int .u8 (mk i))/\w'=w:=by
 go_enter Tryz.func146,Tryz.ntmps146
 go_wp2
 go_ret
 exact⟨rfl,rfl⟩
theorem Lnd.but{D:DV}(h:Lnd D w L bv N)(hb:But X w w')(hx:¬X L):Lnd D w' L bv N:=h.of_block (hb.block L h.lt hx)
open Go.RowKit
theorem Back_ok {D:DV} (L G M:Nat) (a:Option Addr) (n c:Nat) (ys zs:List Int) (w:World) (hn:n<=16777216) (hB:Blk .u8 5 w G ys) (hyl:ys.length=M) (hyt:ys.take (2 * n+70)=lent zs) (hL:Lnd D w L (.slice (some ⟨G,0,none⟩) M M) n) (hGL:L≠G) (hM:2 * n+70<=M) (hM2:M<=1073741824)
  (hR:RdN (fun x=>x=L\/x=G) w a n zs) :
  Calls Tryz.prog 120 #[.pointer (some ⟨L,5,none⟩),.slice a n c] w fun e w'=>∃ys',e=.returned (.bool true)/\Blk .u8 5 w' G ys'/\ys'.length=M/\Lnd D w' L (.slice (some ⟨G,0,none⟩) M M) n/\But (fun x=>x=G) w w':=by
 have hzl:=hR.1
 have hget:∀j,j<2 * n+70->ys.getD j 0=(lent zs).getD j 0:=by
  intro j hj
  rw[<- hyt,List.getD_eq_getElem?_getD,List.getD_eq_getElem?_getD,List.getElem?_take_of_lt hj]
 have r1:∀q,Rd w.heap.size (w.drewN q) (some ⟨G,0,none⟩) n zs:=fun q=>⟨hzl,hR.2.1,.inr ⟨G,0,rfl,hB.lt,fun t ht=>by
  have h:=hB.cell t (by omega)
  rw[hget t (by omega),lent_lo (by omega)]at h
  rw[Nat.zero_add]
  exact h⟩⟩
 have e1:=fun q=>conv_str (r1 q) M
 have e2:∀q,(convert 40 9 (.slice a n c)).run Tryz.prog (w.drewN q)=.ok (.string (strOfNums zs)) (w.drewN q):=fun q=>conv_str (hR.but ((But.refl _ w).drewN q)).rd c
 have hbuf:=hL.buf
 have hnum:=hL.num
 have hnM:(n:Int)<=(M:Int):=by omega
 have HR:=hid hR
 have HG:=hid hget
 clear hR hget r1
 generalize strOfNums zs=s at *
 go_enter Tryz.func120,Tryz.ntmps120
 go_wp2_with fail
 go_quiet (fail)
 go_wp2
 clear e1 e2 hbuf hnum
 go_loopw [5,6] (fun ok i wt=>∃j:Nat,n<=j/\j<=2 * n+70/\i=.int .i64 (j:Int)/\ok=.bool true/\But (fun _=>False) w wt) (fun _ i _=>2 * n+70-(intOf i).toNat)
 case atStart=>exact⟨n,Nat.le_refl _,by omega,rfl,by simp,(But.refl _ _).drewN _⟩
 case round=>
  obtain⟨j,hj1,hj2,rfl,rfl,hbt⟩:=hrel
  have hL2:=hL.but hbt (fun h=>h)
  have hnum:=hL2.num
  have hbuf:=hL2.buf
  by_cases hjn:j<2 * n+70
  ·have hcell:=(hB.but hbt (fun h=>h)).cell j (by omega)
   rw[HG.out j hjn,lent_hi (by omega) (by omega)]at hcell
   have hk2:(j:Int)<(M:Int):=by omega
   go_wp2_with fail
   go_quiet ((go_at_call 146;exact Calls.quiet_of_same (mark_any _ _ _ (by omega))))
   go_wp2
   go_roundw
   case rel=>exact⟨j+1,by omega,by omega,by go_num,by simp,hbt.drewN _⟩
   case measure=>simp[intOf];omega
  ·have HB:=hid (hB.but hbt (fun h=>h))
   have Hyl:=hid hyl
   have HL:=hid hL2
   have Hb:=hid (hbt.mono (Y:=fun x=>x=G) (fun _ _ h=>h.elim))
   clear hB hyl hL hL2 hbt
   go_wp2
   go_loopw [7] (fun i wt=>∃(k:Nat) (ys':List Int),k<=n/\i=.int .i64 (k:Int)/\Blk .u8 5 wt G ys'/\ys'.length=M/\Lnd D wt L (.slice (some ⟨G,0,none⟩) M M) n/\But (fun x=>x=G) w wt) (fun i _=>n-(intOf i).toNat)
   case atStart=>exact⟨0,ys,Nat.zero_le _,rfl,HB.out,Hyl.out,HL.out,Hb.out⟩
   case round=>
    clear HB Hyl HL Hb hnum hbuf
    obtain⟨k,ys',hk,rfl,hB,hyl,hL,hbt⟩:=hrel
    have hnum:=hL.num
    have hbuf:=hL.buf
    by_cases hkn:k<n
    ·have hcell:=hB.cell k (by omega)
     have hfr:=hB.frozen k
     have hk2:(k:Int)<(M:Int):=by omega
     have HB:=hid (hB.set k 120)
     have Hyl:=hid hyl
     have HL:=hid (hL.setOther (p:=⟨G,k,none⟩) (by exact hGL) (.int .u8 120))
     have Hb:=hid (hbt.setCell (p:=⟨G,k,none⟩) rfl (.int .u8 120))
     clear hB hyl hL hbt
     go_wp2
     go_roundw
     case rel=>exact⟨k+1,_,by omega,by go_num,HB.out,by simpa using Hyl.out,HL.out,Hb.out⟩
     case measure=>simp[intOf];omega
    ·have HB:=hid hB
     have Hyl:=hid hyl
     have HL:=hid hL
     clear hB hyl hL
     go_wp2
     go_ret
     exact⟨ys',rfl,HB.out,Hyl.out,HL.out,hbt⟩
end Go.Proofs.YthfojpcibnfmgaaGreat
