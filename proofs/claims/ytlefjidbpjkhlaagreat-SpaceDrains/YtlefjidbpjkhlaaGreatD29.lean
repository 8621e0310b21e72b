import Derived.Test.YtlefjidbpjkhlaaGreatD28
import Derived.Test.YtlefjidbpjkhlaaGreatD21
set_option maxRecDepth 100000
set_option maxHeartbeats 16000000
namespace Go.Proofs.YtlefjidbpjkhlaaGreat
variable {X Y:Nat->Prop}
variable {w w':World}
variable {K N bl lo m n t x y:Nat}
variable {d:Pd}
variable {s:Js}
variable {ss:List Sp}
variable {ms:List Mr}
variable {Ts:List Tn}
variable {who:Option Bool}
variable {off:Bool}
variable {tv:Value}
variable {C:Nat->List Int}
variable {L:Nat->Option (List Int)}
variable {Ms:List (Nat->Option (List Int))}
open Go.RowKit Go.Deep
theorem StA.begin2{j c p st nb fr:Nat}(h:StA Y w j c p st nb K fr bl d s)(hon:d.off=false) :
  Calls Tryz.prog 9 #[.pointer (some ⟨st,0,none⟩)] w fun e w'=>∃t x m Y',e=.returned (.tuple #[.pointer (some ⟨t,0,none⟩),.int .i64 0])/\StM Y' w' j c p st nb K fr bl d s t x m 0 (fun _=>none) [] [] (fun _=>[])/\w.heap.size<=t/\(∀k,Y' k->k<w'.heap.size)/\Gr Y Y' w/\But Y w w':=by
 obtain⟨Z,h1,h2,h3,h4,h5⟩:=h
 refine Calls.mono (begin_any h1 hon h3) ?_
 rintro e w' ⟨t,x,m,rfl,⟨q1,q2,q3,q4,q5,q6⟩,r1,r2,r3,r4⟩
 have hsl:=h3.lt
 have hs:=r4.size
 have hxm:x≠m:=by
  intro e
  have hb:=r3.blk
  obtain⟨es,ck,hm,_⟩:=r3.mp
  rw[e,hm]at hb
  cases hb
 have hT:StT (grow Y w w') w' j c p st nb K fr bl d s t x m 0 (fun _=>none) :=
  ⟨fun k=>Z k/\k<w.heap.size,fun k=>k=x\/k=m,_,_,h1.cut.but r4 (fun k _ e1 e2=>h4 (e2 ▸ e1.1)),r3,r1,r2,fun k q=>.inl ⟨h2 k q.1,q.2⟩,fun k q=>⟨.inr (by omega),fun e=>by omega⟩,(fun z g cp k e=>by cases e),⟨hxm,by omega⟩,⟨fun e=>by omega,fun e=>by omega,.inr (by omega)⟩,⟨fun e=>h4 e.1,fun e=>by omega,.inl ⟨h5,hsl⟩⟩⟩
 exact⟨t,x,m,grow Y w w',rfl,hT.stm,q1,fun k q=>by rcases q with q | q <;> omega,grow.gr Y w w',r4.mono (fun k _ e=>e ▸ h5)⟩
theorem StM.abort2{j c p st nb fr:Nat}{a:Nat->Option Wr}{val:Nat->List Int}(h:StM Y w j c p st nb K fr bl d s t x m n a ss ms val)(hon:d.off=false) :
  Calls Tryz.prog 14 #[.pointer (some ⟨t,0,none⟩)] w fun e w'=>∃Y',e=.returned (.int .i64 0)/\StA Y' w' j c p st nb K fr bl d s/\Txb w' t j .nilIface st (.pointer none)/\¬Y' t/\(∀k,Y' k->k<w'.heap.size)/\Gr Y Y' w/\But Y w w':=by
 obtain⟨Z,Zw,sv,mv,q1,q2,q3,q4,q5,q6,q8,q9,q10⟩:=h
 refine Calls.mono (abort_any q1 hon q3 q4 q8) ?_
 rintro e w' ⟨rfl,r1,r2,r3⟩
 have hsl:=q4.lt
 have hs:=r3.size
 refine⟨fun k=>grow Y w w' k/\k≠t,rfl,⟨fun k=>Z k/\k<w.heap.size,q1.cut.but r3 (fun k _ e1 e2=>e2.elim (fun q=>q10.1 (q ▸ e1.1)) (fun q=>q9.1 (q ▸ e1.1))),fun k q=>⟨.inl ⟨q5 k q.1,q.2⟩,fun e=>q9.1 (e ▸ q.1)⟩,r2,fun e=>q10.1 e.1,.inl ⟨q10.2.2,hsl⟩,q8⟩,r1,fun e=>e.2 rfl,fun k q=>by rcases q.1 with q | q <;> omega,fun k hk q=>grow.gr Y w w' k hk q.1,r3.mono (fun k _ e=>e.elim (fun q=>q ▸ q10.2.2) (fun q=>q ▸ q9.2.2))⟩
theorem StM.commit2{j c p st nb fr:Nat}{a:Nat->Option Wr}{val:Nat->List Int}(h:StM Y w j c p st nb K fr bl d s t x m n a ss ms val){home:Nat->List Int}(ho:On d s nb fr bl lo home Ts)(hfu:d.fu=-1)(hlo:16<=bl)(hfit:fr+bl<=nb)(hnb:nb<=524288)(hsq:Ts.length<1099511627776)(hk:(homeKeys nb (LofA a val)).length<=bl / 2-4)(hh:∀y,y∈homeKeys nb (LofA a val)->homeC nb fr bl (y:Int)=0) :
  Calls Tryz.prog 13 #[.pointer (some ⟨t,0,none⟩)] w fun e w'=>∃Y' d' s' Ts',e=.returned (.int .i64 0)/\StA Y' w' j c p st nb K fr bl d' s'/\d'.fu=-1/\On d' s' nb fr bl lo home Ts'/\Ts'.length<=Ts.length+1/\(∀y,y<nb->contT home Ts' Ts'.length y=(LofA a val y).getD (contT home Ts Ts.length y))/\Txb w' t j .nilIface st (.pointer none)/\¬Y' t/\(∀k,Y' k->k<w'.heap.size)/\Gr Y Y' w/\But Y w w':=by
 obtain⟨Z,Zw,sv,mv,q1,q2,q3,q4,q5,q6,q8,q9,q10⟩:=h
 obtain⟨D,hWq⟩:=q2.wq
 have hpl:=ho.puts hlo hfit hnb
 refine Calls.mono (commit_any q1 (ho.jn hlo hfit hnb) hWq (fun k _ e=>(q6 k e).2) ho.on (by omega) hnb q3 q4 q8 q9.1 q10.1 q9.2.1 q10.2.1) ?_
 intro e w' H
 have hT:=H.txb q9.1
 obtain⟨r1,r2,r3,Z',d',s',Ts',r4,r5,r6,r7,r8,r9⟩:=H.on q1 ho hfu hlo hfit hnb hsq hk hh q9.1 q10.1
 have hs:=r3.size
 refine⟨fun k=>growZ Y Z' w w' k/\k≠t,d',s',Ts',r1,⟨fun k=>Z' k/\k<w'.heap.size,r4.cut,fun k e=>⟨growZ.of q5 r5 e.1 e.2,fun q=>q9.1 (r5 t q3.lt (q ▸ e.1))⟩,r2,fun e=>q10.1 (r5 st q4.lt e.1),.inl ⟨q10.2.2,q4.lt⟩,q8⟩,r6,r7,r8,r9,hT,fun e=>e.2 rfl,fun k q=>by rcases q.1 with q | q <;> omega,fun k hk q=>growZ.gr _ _ _ _ k hk q.1,r3.mono (fun k _ e=>?_)⟩
 rcases e with e | e | e
 ·exact q5 k e
 ·exact e ▸ q10.2.2
 ·exact e ▸ q9.2.2
open Go.RowKit Go.Deep
def askW (who:Option Bool) (off:Bool):Int:=match who with
 | none=>1
 | some b=>if off then 24 else if b then 0 else 51
theorem askW_zero(h:askW who off=0):who=some true/\off=false:=by
 unfold askW at h
 cases who with
 | none=>simp at h
 | some b=>cases off <;> cases b <;> first | exact⟨rfl,rfl⟩ | exact absurd h (by decide)
theorem home_nat{nb fr:Nat}{y:Int}(h:homeC nb fr bl y=0):∃yn:Nat,y=(yn:Int)/\yn<nb:=by
 unfold homeC at h
 split at h
 ·exact absurd h (by decide)
 ·rename_i q
  exact⟨y.toNat,by omega,by omega⟩
theorem ne_bne{c:Int}(h:c≠0):(c != 0)=true:=by simp[h]
def wrC (nb fr bl:Nat) (off:Bool) (who:Option Bool) (y:Int) (n:Nat):Int:=if askW who off≠0 then askW who off else if homeC nb fr bl y≠0 then 42 else if n≠512 then 43 else 0
def bgC (off opn:Bool):Int:=if off then 24 else if opn then 50 else 0
def PWho (w:World) (j st:Nat) (o:Option OT) (tv:Value):Option Bool->Prop
 | none=>tv=.pointer none
 | some true=>∃q,o=some q/\tv=.pointer (some ⟨q.t,0,none⟩)
 | some false=>∃t,tv=.pointer (some ⟨t,0,none⟩)/\Txb w t j .nilIface st (.pointer none)
theorem StO.ask{j c p st nb fr:Nat}{o:Option OT}(h:StO Y w j c p st nb K fr bl d s o)(hw:PWho w j st o tv who):Calls Tryz.prog 40 #[tv] w fun e w'=>e=.returned (.int .i64 (askW who d.off))/\Below w.heap.size w w':=by
 cases who with
 | none=>
  obtain rfl:=hw
  exact task_nil w
 | some b=>
  obtain⟨Z,hJ,_,hS,_⟩:=h.jq
  cases b with
  | true=>
   obtain⟨q,rfl,rfl⟩:=hw
   obtain⟨_,_,_,_,q1,_,q3,q4,_⟩:=h
   cases ho:d.off with
   | true=>exact task_off q1 ho q3
   | false=>exact task_open q1 ho q3 q4
  | false=>
   obtain⟨t,rfl,ht⟩:=hw
   cases ho:d.off with
   | true=>exact task_off hJ ho ht
   | false=>
    cases o with
    | none=>exact task_over0 hJ ho ht hS
    | some q=>
     obtain⟨_,_,_,_,_,_,q3,_⟩:=h
     refine task_over1 hJ ho ht hS q3 (fun e=>?_)
     unfold Txb at ht q3
     rw[e,ht]at q3
     injection q3 with q3
     injection q3 with q3
     simp at q3
theorem StO.askB{j c p st nb fr:Nat}{o:Option OT}(h:StO Y w j c p st nb K fr bl d s o)(hw:PWho w j st o tv who):∀w',Below w.heap.size w w'->Calls Tryz.prog 40 #[tv] w' fun e w2=>e=.returned (.int .i64 (askW who d.off))/\Below w'.heap.size w' w2:=fun w' b=>by
 refine (h.below b).ask (who:=who) ?_
 cases who with
 | none=>exact hw
 | some b'=>
  cases b' with
  | true=>exact hw
  | false=>
   obtain⟨t,e,ht⟩:=hw
   exact⟨t,e,ht.keep (b.block t ht.lt)⟩
theorem StO.open2{j c p st nb fr:Nat}{o:Option OT}(h:StO Y w j c p st nb K fr bl d s o):∃Z,Jq Z w j c p 16 nb K fr bl d s/\∀w' K' d' s' Z',Jq Z' w' j c p 16 nb K' fr bl d' s'->Gr Z Z' w->But Z w w'->∃Y',StO Y' w' j c p st nb K' fr bl d' s' o/\(∀g,w.heap.size<=g->¬Z' g->¬Y' g)/\(∀k,Y' k->k<w'.heap.size)/\Gr Y Y' w/\But Y w w':=by
 cases o with
 | none=>
  obtain⟨Z,h1,h2,h3,h4,h5⟩:=h
  refine⟨Z,h1,fun w' K' d' s' Z' q1 q2 q3=>?_⟩
  have hs:=q3.size
  exact⟨growZ Y Z' w w',⟨fun k=>Z' k/\k<w'.heap.size,q1.cut,fun k e=>growZ.of h2 q2 e.1 e.2,h3.keep (q3.block st h3.lt h4),fun e=>h4 (q2 st h3.lt e.1),.inl ⟨h5,h3.lt⟩⟩,fun g hg n q=>Or.elim q (fun e=>absurd e.2 (by omega)) (fun e=>n e.1),fun k q=>by rcases q with q | q <;> omega,growZ.gr _ _ _ _,q3.mono (fun k _ e=>h2 k e)⟩
 | some o=>
  obtain⟨Z,Zw,sv,mv,q1,q2,q3,q4,q5,q6,q8,q9,q10⟩:=h
  refine⟨Z,q1,fun w' K' d' s' Z' r1 r2 r3=>?_⟩
  have hs:=r3.size
  have ht:=q3.lt
  have hst:=q4.lt
  refine⟨growZ Y Z' w w',⟨fun k=>Z' k/\k<w'.heap.size,fun k=>Zw k/\k<w.heap.size,sv,mv,r1.cut,q2.cut.but r3 (fun k _ e=>(q6 k e.1).2),q3.keep (r3.block _ ht q9.1),q4.keep (r3.block st hst q10.1),fun k e=>growZ.of q5 r2 e.1 e.2,fun k e=>⟨.inl ⟨(q6 k e.1).1,e.2⟩,fun e2=>(q6 k e.1).2 (r2 k e.2 e2.1)⟩,q8,⟨fun e=>q9.1 (r2 _ ht e.1),fun e=>q9.2.1 e.1,.inl ⟨q9.2.2,ht⟩⟩,⟨fun e=>q10.1 (r2 st hst e.1),fun e=>q10.2.1 e.1,.inl ⟨q10.2.2,hst⟩⟩⟩,fun g hg n q=>Or.elim q (fun e=>absurd e.2 (by omega)) (fun e=>n e.1),fun k q=>by rcases q with q | q <;> omega,growZ.gr _ _ _ _,r3.mono (fun k _ e=>q5 k e)⟩
theorem StO.low{j c p st nb fr:Nat}{o:Option OT}(h:StO Y w j c p st nb K fr bl d s o)(b:Below w.heap.size w w'):∃Y',StO Y' w' j c p st nb (K+1) fr bl d s o/\(∀g,w.heap.size<=g->¬Y' g)/\(∀k,Y' k->k<w'.heap.size)/\Gr Y Y' w/\But Y w w':=by
 obtain⟨Z,hJ,hcl⟩:=h.open2
 obtain⟨Y',q1,q2,q3⟩:=hcl w' (K+1) d s (fun k=>Z k/\k<w.heap.size) ((hJ.cut.below b).mono (fun _ q=>q) (by omega)) (fun k _ q=>q.1) (But.of_below b)
 exact⟨Y',q1,fun g hg=>q2 g hg (fun e=>by omega),q3⟩
theorem StO.write{j c p st nb fr:Nat}{o:Option OT}(h:StO Y w j c p st nb K fr bl d s o)(h1:fr+bl<=nb)(hl:d.puts.length<=1073741824)(hK:K<4611686018427387904)(hnb:nb<=524288)(hn:∀q,o=some q->q.n<=1073741823/\q.ss.length<=1073741823)(hw:PWho w j st o tv who)(y:Int)(hy1:-9223372036854775808<=y)(hy2:y<=9223372036854775807)(xa:Option Addr)(xn xc:Nat)(zs:List Int)(hR:RdN Y w xa xn zs) :
  Calls Tryz.prog 52 #[tv,.int .i64 y,.slice xa xn xc] w fun e w'=>∃Y' o',e=.returned (.int .i64 (wrC nb fr bl d.off who y xn))/\StO Y' w' j c p st nb (K+1) fr bl d s o'/\(wrC nb fr bl d.off who y xn≠0->o'=o)/\(wrC nb fr bl d.off who y xn=0->∃q a' ss' val',o=some q/\o'=some { q with n:=q.n+1,a:=a',ss:=ss',val:=val' }/\LofA a' val'=putL (LofA q.a q.val) y.toNat zs/\(∀(i p:Nat) (b:Nat->Option Wr),q.ms[i]?=some (p,b)->LofA b val'=LofA b q.val)/\ss'.length<=q.ss.length+1)/\(∀k,Y' k->k<w'.heap.size)/\Gr Y Y' w/\But Y w w':=by
 have HS:=h.ask hw
 unfold wrC
 by_cases hc:askW who d.off=0
 ·obtain⟨rfl,ho⟩:=askW_zero hc
  obtain⟨q,rfl,rfl⟩:=hw
  have h0:=h
  obtain⟨Z,Zw,sv,mv,q1,q2,q3,q4,q5,q6,q8,q9,q10⟩:=h0
  obtain⟨D,hWq⟩:=q2.wq
  by_cases hh:homeC nb fr bl y=0
  ·obtain⟨yn,rfl,hyn⟩:=home_nat hh
   by_cases hx:xn=512
   ·subst hx
    obtain⟨ad,rfl⟩:∃ad,xa=some ad:=by
     rcases hR.2.2 with q0 | ⟨b,off,e,_⟩
     ·exact absurd q0 (by decide)
     ·exact⟨_,e⟩
    refine Calls.mono (StM.write h (hn q rfl).1 (hn q rfl).2 h1 ho hl hK hnb yn hyn hh ad xc zs (fun w' b=>(hR.but b).rd)) ?_
    rintro e w' ⟨rfl,Y',a',ss',val',r1,r2,r3,r4,r5,r6,r7⟩
    exact⟨Y',some { q with n:=q.n+1,a:=a',ss:=ss',val:=val' },by simp[hc,hh],r1,fun e=>absurd (by simp[hc,hh]) e,fun _=>⟨q,a',ss',val',rfl,rfl,r2,r3,r4⟩,r5,r6,r7⟩
   ·obtain⟨Z0,hJ,hcl⟩:=h.open2
    refine Calls.mono (twrite_len hJ hWq h1 ho hl hK hnb yn hyn hh q3 q4 xa xn xc hx) ?_
    rintro e w' ⟨rfl,⟨Z',r1,r2⟩,r3⟩
    obtain⟨Y',s1,_,s3⟩:=hcl w' _ _ _ Z' r1 r2 r3
    refine⟨Y',some q,by simp[hc,hh,hx],s1,fun _=>rfl,fun e=>?_,s3⟩
    simp[hc,hh,hx]at e
  ·refine Calls.mono (twrite_far q1 hWq h1 ho y hy1 hy2 hh q3 q4 _) ?_
   rintro e w' ⟨rfl,b⟩
   obtain⟨Y',r1,_,r3⟩:=h.low b
   refine⟨Y',some q,by simp[hc,hh],r1,fun _=>rfl,fun e=>?_,r3⟩
   simp[hc,hh]at e
 ·refine Calls.mono (twrite_no HS (ne_bne hc) y _) ?_
  rintro e w' ⟨rfl,b⟩
  obtain⟨Y',r1,_,r3⟩:=h.low b
  refine⟨Y',o,by simp[hc],r1,fun _=>rfl,fun e=>?_,r3⟩
  simp[hc]at e
open Go.RowKit Go.Deep
theorem StO.abort{j c p st nb fr:Nat}{o:Option OT}(h:StO Y w j c p st nb K fr bl d s o)(hw:PWho w j st o tv who) :
  Calls Tryz.prog 14 #[tv] w fun e w'=>∃Y' o',e=.returned (.int .i64 (askW who d.off))/\StO Y' w' j c p st nb K fr bl d s o'/\(askW who d.off≠0->o'=o)/\(askW who d.off=0->∃q,o=some q/\o'=none/\Txb w' q.t j .nilIface st (.pointer none)/\¬Y' q.t)/\(∀k,Y' k->k<w'.heap.size)/\Gr Y Y' w/\But Y w w':=by
 have HS:=h.ask hw
 by_cases hc:askW who d.off=0
 ·obtain⟨rfl,ho⟩:=askW_zero hc
  obtain⟨q,rfl,rfl⟩:=hw
  refine Calls.mono (StM.abort2 h ho) ?_
  rintro e w' ⟨Y',rfl,r1,r2,r3,r4⟩
  exact⟨Y',none,by rw[hc],r1,fun e=>absurd hc e,fun _=>⟨q,rfl,rfl,r2,r3⟩,r4⟩
 ·refine Calls.mono (tabort_no HS (ne_bne hc)) ?_
  rintro e w' ⟨rfl,b⟩
  exact⟨fun k=>Y k/\k<w.heap.size,o,rfl,h.cut.below b,fun _=>rfl,fun e=>absurd e hc,fun k e=>Nat.lt_of_lt_of_le e.2 b.size,fun k _ e=>e.1,But.of_below b⟩
theorem StO.begin{j c p st nb fr:Nat}{o:Option OT}(h:StO Y w j c p st nb K fr bl d s o) :
  Calls Tryz.prog 9 #[.pointer (some ⟨st,0,none⟩)] w fun e w'=>∃tv Y' o',e=.returned (.tuple #[tv,.int .i64 (bgC d.off o.isSome)])/\StO Y' w' j c p st nb K fr bl d s o'/\(bgC d.off o.isSome≠0->o'=o/\tv=.pointer none)/\(bgC d.off o.isSome=0->o=none/\∃t x m,o'=some ⟨t,x,m,0,fun _=>none,[],[],fun _=>[]⟩/\tv=.pointer (some ⟨t,0,none⟩)/\w.heap.size<=t)/\(∀k,Y' k->k<w'.heap.size)/\Gr Y Y' w/\But Y w w':=by
 obtain⟨Z,hJ,_,hS,_⟩:=h.jq
 unfold bgC
 cases ho:d.off with
 | true=>
  have HA:=sask_any hJ hS
  rw[ho]at HA
  refine Calls.mono (sbegin_no HA (by decide)) ?_
  rintro e w' ⟨rfl,b⟩
  exact⟨_,fun k=>Y k/\k<w.heap.size,o,rfl,h.cut.below b,fun _=>⟨rfl,rfl⟩,fun e=>(by simp at e),fun k e=>Nat.lt_of_lt_of_le e.2 b.size,fun k _ e=>e.1,But.of_below b⟩
 | false=>
  cases o with
  | none=>
   refine Calls.mono (StA.begin2 h ho) ?_
   rintro e w' ⟨t,x,m,Y',rfl,r1,r2,r3⟩
   exact⟨_,Y',some ⟨t,x,m,0,fun _=>none,[],[],fun _=>[]⟩,rfl,r1,fun e=>absurd rfl e,fun _=>⟨rfl,t,x,m,rfl,rfl,r2⟩,r3⟩
  | some q=>
   refine Calls.mono (sbegin_open hJ ho hS) ?_
   rintro e w' ⟨rfl,b⟩
   exact⟨_,fun k=>Y k/\k<w.heap.size,some q,rfl,h.cut.below b,fun _=>⟨rfl,rfl⟩,fun e=>(by simp at e),fun k e=>Nat.lt_of_lt_of_le e.2 b.size,fun k _ e=>e.1,But.of_below b⟩
theorem StO.owns{j c p st nb fr:Nat}{o:Option OT}(h:StO Y w j c p st nb K fr bl d s o)(hw:PWho w j st o tv who) :
  Calls Tryz.prog 93 #[.pointer (some ⟨st,0,none⟩),tv] w fun e w'=>e=.returned (.int .i64 (askW who d.off))/\Below w.heap.size w w':=by
 obtain⟨Z,hJ,_,hS,_⟩:=h.jq
 cases who with
 | none=>
  obtain rfl:=hw
  exact sowns_nil w _
 | some b=>
  have HB:=h.askB hw
  have ht:∃t fv wv,tv=.pointer (some ⟨t,0,none⟩)/\Txb w t j fv st wv:=by
   cases b with
   | true=>
    obtain⟨q,rfl,e⟩:=hw
    obtain⟨_,_,_,_,_,_,q3,_⟩:=h
    exact⟨q.t,_,_,e,q3⟩
   | false=>
    obtain⟨t,e,ht⟩:=hw
    exact⟨t,_,_,e,ht⟩
  obtain⟨t,fv,wv,rfl,ht⟩:=ht
  cases ho:d.off with
  | true=>exact sowns_off hJ ho hS _
  | false=>
   rw[ho]at HB
   exact sowns_own hJ ho hS ht HB
open Go.RowKit Go.Deep
structure Cf where
 j:Nat
 c:Nat
 p:Nat
 st:Nat
 nb:Nat
def Idl (Y:Nat->Prop) (w:World) (F:Cf) (K N:Nat) (C:Nat->List Int):Prop :=
 ∃d s home Ts,StA Y w F.j F.c F.p F.st F.nb K 0 64 d s/\d.fu=-1/\On d s F.nb 0 64 0 home Ts/\Ts.length<=N/\(∀y,64<=y->y<F.nb->contT home Ts Ts.length y=C y)/\(∀k,Y k->k<w.heap.size)/\64<=F.nb/\F.nb<=524288
def Opn (Y:Nat->Prop) (w:World) (F:Cf) (K N:Nat) (C:Nat->List Int) (t:Nat) (L:Nat->Option (List Int)) (Ms:List (Nat->Option (List Int))) (n:Nat):Prop :=
 ∃d s home Ts q,q.t=t/\StO Y w F.j F.c F.p F.st F.nb K 0 64 d s (some q)/\d.fu=-1/\On d s F.nb 0 64 0 home Ts/\Ts.length<=N/\(∀y,64<=y->y<F.nb->contT home Ts Ts.length y=C y)/\(∀k,Y k->k<w.heap.size)/\64<=F.nb/\F.nb<=524288/\LofA q.a q.val=L/\q.ms.map (fun m=>LofA m.2 q.val)=Ms/\q.n+q.ss.length<=n
theorem home64{nb:Nat}(h1:64<=y)(h2:y<nb):homeC nb (0:Nat) (64:Nat) (y:Int)=0:=by
 unfold homeC
 rw[if_neg]
 omega
theorem homeB64{nb:Nat}(h1:64<=y)(h2:y<nb):HomeB nb 0 64 y:=⟨h2,by omega⟩
theorem Idl.keep{F:Cf}(h:Idl Y w F K N C)(hb:But X w w')(hX:∀k,k<w.heap.size->X k->Y k->False):Idl Y w' F K N C:=by
 obtain⟨d,s,home,Ts,h1,h2,h3,h4,h5,h6,h7,h8⟩:=h
 exact⟨d,s,home,Ts,h1.keep2 hb hX,h2,h3,h4,h5,fun k q=>Nat.lt_of_lt_of_le (h6 k q) hb.size,h7,h8⟩
theorem Opn.keep{F:Cf}(h:Opn Y w F K N C t L Ms n)(hb:But X w w')(hX:∀k,k<w.heap.size->X k->Y k->False):Opn Y w' F K N C t L Ms n:=by
 obtain⟨d,s,home,Ts,q,h0,h1,h2,h3,h4,h5,h6,h7,h8,h9⟩:=h
 exact⟨d,s,home,Ts,q,h0,h1.keep hb hX,h2,h3,h4,h5,fun k e=>Nat.lt_of_lt_of_le (h6 k e) hb.size,h7,h8,h9⟩
theorem Idl.below{F:Cf}(h:Idl Y w F K N C)(hb:Below w.heap.size w w'):Idl Y w' F K N C:=h.keep (X:=fun _=>False) (But.of_below hb) (fun _ _ q _=>q)
theorem Opn.below{F:Cf}(h:Opn Y w F K N C t L Ms n)(hb:Below w.heap.size w w'):Opn Y w' F K N C t L Ms n:=h.keep (X:=fun _=>False) (But.of_below hb) (fun _ _ q _=>q)
theorem Idl.lt{F:Cf}(h:Idl Y w F K N C):∀k,Y k->k<w.heap.size:=h.elim fun _ h=>h.elim fun _ h=>h.elim fun _ h=>h.elim fun _ h=>h.2.2.2.2.2.1
theorem Opn.lt{F:Cf}(h:Opn Y w F K N C t L Ms n):∀k,Y k->k<w.heap.size:=by
 obtain⟨d,s,home,Ts,q,h0,h1,h2,h3,h4,h5,h6,h7,h8,h9⟩:=h
 exact h6
theorem Opn.yst{F:Cf}(h:Opn Y w F K N C t L Ms n):Y F.st/\Y t/\t<w.heap.size:=by
 obtain⟨d,s,home,Ts,q,rfl,⟨Z,Zw,sv,mv,q1,q2,q3,q4,q5,q6,q8,q9,q10⟩,_⟩:=h
 exact⟨q10.2.2,q9.2.2,q3.lt⟩
theorem Idl.begin{F:Cf}(h:Idl Y w F K N C) :
  Calls Tryz.prog 9 #[.pointer (some ⟨F.st,0,none⟩)] w fun e w'=>∃t Y',e=.returned (.tuple #[.pointer (some ⟨t,0,none⟩),.int .i64 0])/\Opn Y' w' F K N C t (fun _=>none) [] 0/\w.heap.size<=t/\Gr Y Y' w/\But Y w w':=by
 obtain⟨d,s,home,Ts,h1,h2,h3,h4,h5,h6,h7,h8⟩:=h
 refine Calls.mono (StO.begin (o:=none) h1) ?_
 rintro e w' ⟨tv,Y',o',rfl,r1,r2,r3,r4,r5,r6⟩
 have hz:bgC d.off (none:Option OT).isSome=0:=by simp[bgC,h3.on]
 obtain⟨_,t,x,m,rfl,rfl,r7⟩:=r3 hz
 rw[hz]
 exact⟨t,Y',rfl,⟨d,s,home,Ts,_,rfl,r1,h2,h3,h4,h5,r4,h7,h8,rfl,rfl,Nat.zero_le _⟩,r7,r5,r6⟩
theorem Opn.read{F:Cf}(h:Opn Y w F K N C t L Ms n)(hK:K<4611686018427387904)(y:Nat)(hy1:64<=y)(hy2:y<F.nb) :
  Calls Tryz.prog 47 #[.pointer (some ⟨t,0,none⟩),.int .i64 (y:Int)] w fun e w'=>∃g cp Y',e=.returned (.tuple #[.slice (some ⟨g,0,none⟩) 512 cp,.int .i64 0])/\Opn Y' w' F (K+1) N C t L Ms n/\w.heap.size<=g/\Own w' g 512 cp ((L y).getD (C y))/\Pl.isB ((L y).getD (C y))/\¬Y' g/\Gr Y Y' w/\But Y w w':=by
 obtain⟨d,s,home,Ts,q,rfl,h1,h2,h3,h4,h5,h6,h7,h8,rfl,rfl,h11⟩:=h
 have hpl:=h3.puts (by decide) (by omega) h8
 obtain⟨Z,Zw,sv,mv,q1,q2,q3,q4,q5,q6,q8,q9,q10⟩:=h1
 obtain⟨D,hWq⟩:=q2.wq
 refine Calls.mono (tread_home q1 hWq (by omega) h3.on (by omega) hK h8 y hy2 (home64 hy1 hy2) q3 q4) ?_
 rintro e w' ⟨g,cp,rfl,r1,r2,r3,⟨Z',r4,r5,r6⟩,r7⟩
 have hs:=r7.size
 have ht:=q3.lt
 have hst:=q4.lt
 rw[h3.read (homeB64 hy1 hy2),h5 y hy1 hy2]at r2 r3
 exact⟨g,cp,growZ Y Z' w w',rfl,⟨d,s,home,Ts,q,rfl,⟨fun k=>Z' k/\k<w'.heap.size,fun k=>Zw k/\k<w.heap.size,sv,mv,r4.cut,q2.cut.but r7 (fun k _ e=>(q6 k e.1).2),q3.keep (r7.block _ ht q9.1),q4.keep (r7.block _ hst q10.1),fun k e=>growZ.of q5 r5 e.1 e.2,fun k e=>⟨.inl ⟨(q6 k e.1).1,e.2⟩,fun e2=>(q6 k e.1).2 (r5 k e.2 e2.1)⟩,q8,⟨fun e=>q9.1 (r5 _ ht e.1),fun e=>q9.2.1 e.1,.inl ⟨q9.2.2,ht⟩⟩,⟨fun e=>q10.1 (r5 _ hst e.1),fun e=>q10.2.1 e.1,.inl ⟨q10.2.2,hst⟩⟩⟩,h2,h3,h4,h5,fun k q=>by rcases q with q | q <;> omega,h7,h8,rfl,rfl,h11⟩,r1,r2,r3,fun q=>Or.elim q (fun e=>absurd e.2 (by omega)) (fun e=>r6 e.1),growZ.gr _ _ _ _,r7.mono (fun k _ e=>q5 k e)⟩
theorem Opn.write{F:Cf}(h:Opn Y w F K N C t L Ms n)(hK:K<4611686018427387904)(hn:n<=1073741823)(y:Nat)(hy1:64<=y)(hy2:y<F.nb)(xa:Option Addr)(xc:Nat)(zs:List Int)(hR:RdN Y w xa 512 zs) :
  Calls Tryz.prog 52 #[.pointer (some ⟨t,0,none⟩),.int .i64 (y:Int),.slice xa 512 xc] w fun e w'=>∃Y',e=.returned (.int .i64 0)/\Opn Y' w' F (K+1) N C t (putL L y zs) Ms (n+2)/\Gr Y Y' w/\But Y w w':=by
 obtain⟨d,s,home,Ts,q,rfl,h1,h2,h3,h4,h5,h6,h7,h8,rfl,rfl,h11⟩:=h
 have hpl:=h3.puts (by decide) (by omega) h8
 refine Calls.mono (h1.write (by omega) (by omega) hK h8 (fun q' e=>by cases e;omega) (who:=some true) ⟨q,rfl,rfl⟩ (y:Int) (by omega) (by omega) xa 512 xc zs hR) ?_
 rintro e w' ⟨Y',o',rfl,r1,r2,r3,r4,r5,r6⟩
 have hz:wrC F.nb 0 64 d.off (some true) (y:Int) 512=0:=by
  unfold wrC
  rw[if_neg (by simp[askW,h3.on]),if_neg (by rw[home64 hy1 hy2];decide),if_neg (by decide)]
 obtain⟨q',a',ss',val',e1,rfl,e3,e4,e5⟩:=r3 hz
 cases e1
 rw[hz]
 refine⟨Y',rfl,⟨d,s,home,Ts,{ q with n:=q.n+1,a:=a',ss:=ss',val:=val' },rfl,r1,h2,h3,h4,h5,r4,h7,h8,by simpa using e3,?_,by simp only;omega⟩,r5,r6⟩
 refine List.map_congr_left (fun m hm=>?_)
 obtain⟨i,hi⟩:=List.mem_iff_getElem?.1 hm
 exact e4 i m.1 m.2 hi
theorem Opn.sread{F:Cf}(h:Opn Y w F K N C t L Ms n)(hK:K<4611686018427387904)(y:Nat)(hy1:64<=y)(hy2:y<F.nb) :
  Calls Tryz.prog 30 #[.pointer (some ⟨F.st,0,none⟩),.int .i64 (y:Int)] w fun e w'=>∃g cp Y',e=.returned (.tuple #[.slice (some ⟨g,0,none⟩) 512 cp,.int .i64 0])/\Opn Y' w' F (K+1) N C t L Ms n/\w.heap.size<=g/\Own w' g 512 cp (C y)/\Pl.isB (C y)/\¬Y' g/\Gr Y Y' w/\But Y w w':=by
 obtain⟨d,s,home,Ts,q,rfl,h1,h2,h3,h4,h5,h6,h7,h8,rfl,rfl,h11⟩:=h
 have hpl:=h3.puts (by decide) (by omega) h8
 obtain⟨Z0,_,_,hS,_⟩:=h1.jq
 obtain⟨Z,hJ,hcl⟩:=h1.open2
 refine Calls.mono (sread_home hJ (by omega) h3.on (by omega) hK y hy2 (home64 hy1 hy2) hS) ?_
 rintro e w' ⟨g,cp,rfl,r1,r2,r3,⟨Z',r4,r5,r6⟩,r7⟩
 obtain⟨Y',q1,q2,q3,q4,q5⟩:=hcl w' _ _ _ Z' r4 r5 r7
 rw[h3.read (homeB64 hy1 hy2),h5 y hy1 hy2]at r2 r3
 exact⟨g,cp,Y',rfl,⟨d,s,home,Ts,q,rfl,q1,h2,h3,h4,h5,q3,h7,h8,rfl,rfl,h11⟩,r1,r2,r3,q2 g r1 r6,q4,q5⟩
theorem Idl.sread{F:Cf}(h:Idl Y w F K N C)(hK:K<4611686018427387904)(y:Nat)(hy1:64<=y)(hy2:y<F.nb) :
  Calls Tryz.prog 30 #[.pointer (some ⟨F.st,0,none⟩),.int .i64 (y:Int)] w fun e w'=>∃g cp Y',e=.returned (.tuple #[.slice (some ⟨g,0,none⟩) 512 cp,.int .i64 0])/\Idl Y' w' F (K+1) N C/\w.heap.size<=g/\Own w' g 512 cp (C y)/\Pl.isB (C y)/\¬Y' g/\Gr Y Y' w/\But Y w w':=by
 obtain⟨d,s,home,Ts,h1,h2,h3,h4,h5,h6,h7,h8⟩:=h
 have hpl:=h3.puts (by decide) (by omega) h8
 have h1':StO Y w F.j F.c F.p F.st F.nb K 0 64 d s none:=h1
 obtain⟨Z0,_,_,hS,_⟩:=h1'.jq
 obtain⟨Z,hJ,hcl⟩:=h1'.open2
 refine Calls.mono (sread_home hJ (by omega) h3.on (by omega) hK y hy2 (home64 hy1 hy2) hS) ?_
 rintro e w' ⟨g,cp,rfl,r1,r2,r3,⟨Z',r4,r5,r6⟩,r7⟩
 obtain⟨Y',q1,q2,q3,q4,q5⟩:=hcl w' _ _ _ Z' r4 r5 r7
 rw[h3.read (homeB64 hy1 hy2),h5 y hy1 hy2]at r2 r3
 exact⟨g,cp,Y',rfl,⟨d,s,home,Ts,q1,h2,h3,h4,h5,q3,h7,h8⟩,r1,r2,r3,q2 g r1 r6,q4,q5⟩
theorem Opn.owns{F:Cf}(h:Opn Y w F K N C t L Ms n) :
  Calls Tryz.prog 93 #[.pointer (some ⟨F.st,0,none⟩),.pointer (some ⟨t,0,none⟩)] w fun e w'=>e=.returned (.int .i64 0)/\Below w.heap.size w w':=by
 obtain⟨d,s,home,Ts,q,rfl,h1,h2,h3,h4,h5,h6,h7,h8,rfl,rfl,h11⟩:=h
 refine Calls.mono (h1.owns (who:=some true) ⟨q,rfl,rfl⟩) ?_
 rintro e w' ⟨rfl,b⟩
 exact⟨by simp[askW,h3.on],b⟩
theorem Opn.commit{F:Cf}(h:Opn Y w F K N C t L Ms n)(hN:N<1099511627776)(hk:(homeKeys F.nb L).length<=28) :
  Calls Tryz.prog 13 #[.pointer (some ⟨t,0,none⟩)] w fun e w'=>∃Y',e=.returned (.int .i64 0)/\Idl Y' w' F K (N+1) (fun y=>(L y).getD (C y))/\Txb w' t F.j .nilIface F.st (.pointer none)/\¬Y' t/\Gr Y Y' w/\But Y w w':=by
 obtain⟨d,s,home,Ts,q,rfl,h1,h2,h3,h4,h5,h6,h7,h8,rfl,rfl,h11⟩:=h
 have hm:∀y,y∈homeKeys F.nb (LofA q.a q.val)->homeC F.nb (0:Nat) (64:Nat) (y:Int)=0:=fun y hy=>by
  obtain⟨Z,Zw,sv,mv,q1,q2,q3,q4,q5,q6,q8,q9,q10⟩:=h1
  obtain⟨_,hy2⟩:=mem_homeKeys.1 hy
  unfold LofA at hy2
  cases hr:q.a y with
  | none=>rw[hr]at hy2;simp at hy2
  | some r=>exact (q2.dat y r (.inl hr)).2.2.1.2
 refine Calls.mono (StM.commit2 h1 h3 h2 (by decide) (by omega) h8 (by omega) (by omega) hm) ?_
 rintro e w' ⟨Y',d',s',Ts',rfl,r1,r2,r3,r4,r5,r6,r7,r8,r9,r10⟩
 exact⟨Y',rfl,⟨d',s',home,Ts',r1,r2,r3,by omega,fun y a b=>by rw[r5 y b,h5 y a b],r8,h7,h8⟩,r6,r7,r9,r10⟩
theorem Opn.abort{F:Cf}(h:Opn Y w F K N C t L Ms n) :
  Calls Tryz.prog 14 #[.pointer (some ⟨t,0,none⟩)] w fun e w'=>∃Y',e=.returned (.int .i64 0)/\Idl Y' w' F K N C/\Txb w' t F.j .nilIface F.st (.pointer none)/\¬Y' t/\Gr Y Y' w/\But Y w w':=by
 obtain⟨d,s,home,Ts,q,rfl,h1,h2,h3,h4,h5,h6,h7,h8,rfl,rfl,h11⟩:=h
 have hz:askW (some true) d.off=0:=by simp[askW,h3.on]
 refine Calls.mono (h1.abort (who:=some true) ⟨q,rfl,rfl⟩) ?_
 rintro e w' ⟨Y',o',rfl,r1,r2,r3,r4,r5,r6⟩
 obtain⟨q',e1,rfl,e3,e4⟩:=r3 hz
 cases e1
 exact⟨Y',by rw[hz],⟨d,s,home,Ts,r1,h2,h3,h4,h5,r4,h7,h8⟩,e3,e4,r5,r6⟩
open Go.RowKit Go.Deep
theorem readSn(t:Nat)(w:World):Sem.run Tryz.prog (method 414 101 (.agg #[.pointer (some ⟨t,0,none⟩)]) "Read") w=.ok (47,.pointer (some ⟨t,0,none⟩)) w:=by kernel_rfl
theorem readCm(st:Nat)(b:Bool)(w:World):Sem.run Tryz.prog (method 414 164 (.agg #[.pointer (some ⟨st,0,none⟩),.bool b]) "Read") w=.ok (30,.pointer (some ⟨st,0,none⟩)) w:=by kernel_rfl
theorem ta_com(t:Nat)(w:World):Sem.run Tryz.prog (Instr.typeAssert (.iface 101 (.agg #[.pointer (some ⟨t,0,none⟩)])) 200 164 true) w=.ok (.tuple #[.agg #[.pointer none,.bool false],.bool false]) w:=by kernel_rfl
theorem ta_seen(t:Nat)(w:World):Sem.run Tryz.prog (Instr.typeAssert (.iface 101 (.agg #[.pointer (some ⟨t,0,none⟩)])) 200 101 true) w=.ok (.tuple #[.agg #[.pointer (some ⟨t,0,none⟩)],.bool true]) w:=by kernel_rfl
theorem ta_comC(st:Nat)(b:Bool)(w:World):Sem.run Tryz.prog (Instr.typeAssert (.iface 164 (.agg #[.pointer (some ⟨st,0,none⟩),.bool b])) 200 164 true) w=.ok (.tuple #[.agg #[.pointer (some ⟨st,0,none⟩),.bool b],.bool true]) w:=by kernel_rfl
def PgP (Y:Nat->Prop) (w:World) (r m:Nat) (zs:List Int) (X:(Nat->Prop)->World->Prop) (e:Ending) (w':World):Prop :=
 ∃Y',X Y' w'/\(isPg r m zs=true->∃g cp,e=.returned (.tuple #[.slice (some ⟨g,0,none⟩) 512 cp,.int .i64 0])/\w.heap.size<=g/\Own w' g 512 cp zs/\Pl.isB zs/\¬Y' g)/\(isPg r m zs=false->e=.returned (.tuple #[.slice none 0 0,.int .i64 65]))/\Gr Y Y' w/\But Y w w'
theorem Opn.pageS{F:Cf}(h:Opn Y w F K N C t L Ms n)(hK:K<4611686018427387904)(f r m:Nat)(h1:r<=262144)(h2:m<=1024)(hy1:64<=f+m)(hy2:f+m<F.nb) :
  Calls Tryz.prog 87 #[.agg #[.int .i64 (f:Int),.int .i64 (r:Int)],.iface 101 (.agg #[.pointer (some ⟨t,0,none⟩)]),.int .i64 (m:Int)] w (PgP Y w r m ((L (f+m)).getD (C (f+m))) (fun Y' w'=>Opn Y' w' F (K+1) N C t L Ms n)):=by
 obtain⟨zs,hzs⟩:∃zs,zs=(L (f+m)).getD (C (f+m)):=⟨_,rfl⟩
 rw[<- hzs]
 obtain⟨PO,hPO⟩:∃PO:Ending->World->Prop,PO=PgP Y w r m zs (fun Y' w'=>Opn Y' w' F (K+1) N C t L Ms n):=⟨_,rfl⟩
 rw[<- hPO]
 obtain⟨w0,hw0⟩:∃w0,w0=w.alloc (.cells #[.int .i64 (f:Int),.int .i64 (r:Int)] 92):=⟨_,rfl⟩
 have z0:w0.heap.size=w.heap.size+1:=by rw[hw0];simp
 have b0:Below w.heap.size w w0:=by rw[hw0];exact (Below.refl _ _).alloc (Nat.le_refl _) _
 have hblk:w0.heap[w.heap.size]?=some (.cells #[.int .i64 (f:Int),.int .i64 (r:Int)] 92 (0,0)):=by rw[hw0];exact Array.getElem?_push_size
 have hlt:=h.lt
 have hnb:F.nb<=524288:=by
  obtain⟨_,_,_,_,_,_,_,_,_,_,_,_,_,q,_⟩:=h
  exact q
 have HR:Hid (Calls Tryz.prog 47 #[.pointer (some ⟨t,0,none⟩),.int .i64 ((f:Int)+(m:Int))] w0 fun e w2=>∃G cap,e=.returned (.tuple #[.slice (some ⟨G,0,none⟩) 512 cap,.int .i64 0])/\(w2.cell? ⟨w.heap.size,0,none⟩=some (.int .i64 (f:Int))/\w2.cell? ⟨w.heap.size,1,none⟩=some (.int .i64 (r:Int)))/\Calls Tryz.prog 140 #[.agg #[.int .i64 (f:Int),.int .i64 (r:Int)],.slice (some ⟨G,0,none⟩) 512 cap,.int .i64 (m:Int)] w2 fun e w3=>e=.returned (.bool (isPg r m zs))/\∀w4,Below w3.heap.size w3 w4->(isPg r m zs=true->PO (.returned (.tuple #[.slice (some ⟨G,0,none⟩) 512 cap,.int .i64 0])) w4)/\(isPg r m zs=false->PO (.returned (.tuple #[.slice none 0 0,.int .i64 65])) w4)):=by
  rw[show ((f:Int)+(m:Int))=((f+m:Nat):Int) by omega]
  refine Calls.mono ((h.below b0).read hK (f+m) hy1 hy2) ?_
  rintro e w2 ⟨g,cp,Y',rfl,r1,r2,r3,r4,r5,r6,r7⟩
  rw[<- hzs]at r3 r4
  have hs2:=r7.size
  have hb2:=(r7.block w.heap.size (by omega) (fun q=>by have:=hlt _ q;omega)).trans hblk
  refine⟨g,cp,rfl,⟨by simp[World.cell?,hb2],by simp[World.cell?,hb2]⟩,Calls.mono (isPage_any (f:Int) h1 h2 r3 r4) ?_⟩
  rintro e w3 ⟨rfl,b3⟩
  refine⟨rfl,fun w4 b4=>?_⟩
  have b24:Below w2.heap.size w2 w4:=b3.trans (b4.mono b3.size)
  have gg:Gr Y Y' w:=fun k hk q=>r6 k (by omega) q
  have bb:But Y w w4:=((But.of_below b0 (X:=Y)).trans r7).comp (But.of_below b24 (X:=fun _=>False)) (fun _ _ q=>q.elim)
  rw[hPO]
  exact⟨fun q=>⟨Y',r1.below b24,fun _=>⟨g,cp,rfl,by omega,r3.keep (b24.block g r3.lt),r4,r5⟩,fun q'=>(by rw[q]at q';cases q'),gg,bb⟩,fun q=>⟨Y',r1.below b24,fun q'=>(by rw[q]at q';cases q'),fun _=>rfl,gg,bb⟩⟩
 have HW:=hid hw0
 have k0:w0.cell? ⟨w.heap.size,0,none⟩=some (.int .i64 (f:Int)):=by simp[World.cell?,hblk]
 clear hw0 b0 z0 hblk hPO h hzs hlt
 go_enter Tryz.func87,Tryz.ntmps87
 go_wp2_with (rw[readSn])
 rw[<- HW.out]
 refine Calls.mono HR.out ?_
 rintro e w2 ⟨G,cap,rfl,⟨c0,c1⟩,h3⟩
 have H3:=hid h3
 clear h3 HR k0 HW
 go_wp2_with fail
 refine Calls.mono H3.out ?_
 rintro e w3 ⟨rfl,h4⟩
 have H4:=hid h4
 clear h4 H3 c0 c1
 have ta1:=fun u=>ta_com t u
 have ta2:=fun u=>ta_seen t u
 generalize isPg r m zs=bb at *
 cases bb with
 | true=>
  have FIN:=hid (fun w4 b4=>(H4.out w4 b4).1 rfl)
  clear H4
  go_wp2
  exact FIN.out _ ((Below.refl _ _).alloc (Nat.le_refl _) _)
 | false=>
  have FIN:=hid (fun w4 b4=>(H4.out w4 b4).2 rfl)
  clear H4
  go_wp2
  exact FIN.out _ ((Below.refl _ _).alloc (Nat.le_refl _) _)
end Go.Proofs.YtlefjidbpjkhlaaGreat
