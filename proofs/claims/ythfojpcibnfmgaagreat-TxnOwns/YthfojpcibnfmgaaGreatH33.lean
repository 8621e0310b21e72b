import Derived.Test.YthfojpcibnfmgaaGreatH32
import Derived.Test.YthfojpcibnfmgaaGreatH01
import Derived.Test.YthfojpcibnfmgaaGreatH12
import Derived.Deep.RegionHeld3
import Derived.LaidEqlPtr
set_option maxRecDepth 100000
set_option maxHeartbeats 16000000
namespace Go.Proofs.YthfojpcibnfmgaaGreat
variable {Y Z Zc:Nat->Prop}
variable {w w':World}
variable {K bl fr j lo m n nb p st t x:Nat}
variable {d d':Pd}
variable {s:Js}
variable {a:Nat->Option Wr}
variable {ss:List Sp}
variable {ms:List Mr}
variable {Ts:List Tn}
variable {o:Option OT}
variable {dv fv ov tv:Value}
variable {off:Bool}
open Go.RowKit Go.Deep
theorem StA.begin2{c:Nat}(h:StA Y w j c p st nb K fr bl d s)(hon:d.off=false) :
  Calls Tryz.prog 26 #[.pointer (some ⟨st,0,none⟩)] w fun e w'=>∃t x m Y',e=.returned (.tuple #[.pointer (some ⟨t,0,none⟩),.int .i64 0])/\StM Y' w' j c p st nb K fr bl d s t x m 0 (fun _=>none) [] [] (fun _=>[])/\w.heap.size<=t/\(∀k,Y' k->k<w'.heap.size)/\Gr Y Y' w/\But Y w w':=by
 obtain⟨Z,h1,h2,h3,h4,h5⟩:=h
 refine Calls.mono (begin_any h1 hon h3) ?_
 rintro e w' ⟨t,x,m,rfl,⟨q1,q2,q3,q4,q5,q6⟩,r1,r2,r3,r4⟩
 have hsl:=h3.lt
 have hs:=r4.size
 have hxm:x≠m:=by
  intro e
  have hb:=r3.blk
  obtain⟨es,ck,hm,_⟩:=r3.mp
  rw[e,hm]at hb
  cases hb
 have hT:StT (grow Y w w') w' j c p st nb K fr bl d s t x m 0 (fun _=>none) :=
  ⟨fun k=>Z k/\k<w.heap.size,fun k=>k=x\/k=m,_,_,h1.cut.but r4 (fun k _ e1 e2=>h4 (e2 ▸ e1.1)),r3,r1,r2,fun k q=>.inl ⟨h2 k q.1,q.2⟩,fun k q=>⟨.inr (by omega),fun e=>by omega⟩,(fun z g cp k e=>by cases e),⟨hxm,by omega⟩,⟨fun e=>by omega,fun e=>by omega,.inr (by omega)⟩,⟨fun e=>h4 e.1,fun e=>by omega,.inl ⟨h5,hsl⟩⟩⟩
 exact⟨t,x,m,grow Y w w',rfl,hT.stm,q1,fun k q=>by rcases q with q | q <;> omega,grow.gr Y w w',r4.mono (fun k _ e=>e ▸ h5)⟩
theorem StM.abort2{c:Nat}{val:Nat->List Int}(h:StM Y w j c p st nb K fr bl d s t x m n a ss ms val)(hon:d.off=false) :
  Calls Tryz.prog 35 #[.pointer (some ⟨t,0,none⟩)] w fun e w'=>∃Y',e=.returned (.int .i64 0)/\StA Y' w' j c p st nb K fr bl d s/\Txb w' t j .nilIface st (.pointer none)/\¬Y' t/\(∀k,Y' k->k<w'.heap.size)/\Gr Y Y' w/\But Y w w':=by
 obtain⟨Z,Zw,sv,mv,q1,q2,q3,q4,q5,q6,q8,q9,q10⟩:=h
 refine Calls.mono (abort_any q1 hon q3 q4 q8) ?_
 rintro e w' ⟨rfl,r1,r2,r3⟩
 have hsl:=q4.lt
 have hs:=r3.size
 refine⟨fun k=>grow Y w w' k/\k≠t,rfl,⟨fun k=>Z k/\k<w.heap.size,q1.cut.but r3 (fun k _ e1 e2=>e2.elim (fun q=>q10.1 (q ▸ e1.1)) (fun q=>q9.1 (q ▸ e1.1))),fun k q=>⟨.inl ⟨q5 k q.1,q.2⟩,fun e=>q9.1 (e ▸ q.1)⟩,r2,fun e=>q10.1 e.1,.inl ⟨q10.2.2,hsl⟩,q8⟩,r1,fun e=>e.2 rfl,fun k q=>by rcases q.1 with q | q <;> omega,fun k hk q=>grow.gr Y w w' k hk q.1,r3.mono (fun k _ e=>e.elim (fun q=>q ▸ q10.2.2) (fun q=>q ▸ q9.2.2))⟩
theorem StM.commit2{c:Nat}{val:Nat->List Int}(h:StM Y w j c p st nb K fr bl d s t x m n a ss ms val){home:Nat->List Int}(ho:On d s nb fr bl lo home Ts)(hfu:d.fu=-1)(hlo:16<=bl)(hfit:fr+bl<=nb)(hnb:nb<=524288)(hsq:Ts.length<1099511627776)(hk:(homeKeys nb (LofA a val)).length<=bl / 2-4)(hh:∀y,y∈homeKeys nb (LofA a val)->homeC nb fr bl (y:Int)=0) :
  Calls Tryz.prog 34 #[.pointer (some ⟨t,0,none⟩)] w fun e w'=>∃Y' d' s' Ts',e=.returned (.int .i64 0)/\StA Y' w' j c p st nb K fr bl d' s'/\d'.fu=-1/\On d' s' nb fr bl lo home Ts'/\Ts'.length<=Ts.length+1/\(∀y,y<nb->contT home Ts' Ts'.length y=(LofA a val y).getD (contT home Ts Ts.length y))/\Txb w' t j .nilIface st (.pointer none)/\¬Y' t/\(∀k,Y' k->k<w'.heap.size)/\Gr Y Y' w/\But Y w w':=by
 obtain⟨Z,Zw,sv,mv,q1,q2,q3,q4,q5,q6,q8,q9,q10⟩:=h
 obtain⟨D,hWq⟩:=q2.wq
 have hpl:=ho.puts hlo hfit hnb
 refine Calls.mono (commit_any q1 (ho.jn hlo hfit hnb) hWq (fun k _ e=>(q6 k e).2) ho.on (by omega) hnb q3 q4 q8 q9.1 q10.1 q9.2.1 q10.2.1) ?_
 intro e w' H
 have hT:=H.txb q9.1
 obtain⟨r1,r2,r3,Z',d',s',Ts',r4,r5,r6,r7,r8,r9⟩:=H.on q1 ho hfu hlo hfit hnb hsq hk hh q9.1 q10.1
 have hs:=r3.size
 refine⟨fun k=>growZ Y Z' w w' k/\k≠t,d',s',Ts',r1,⟨fun k=>Z' k/\k<w'.heap.size,r4.cut,fun k e=>⟨growZ.of q5 r5 e.1 e.2,fun q=>q9.1 (r5 t q3.lt (q ▸ e.1))⟩,r2,fun e=>q10.1 (r5 st q4.lt e.1),.inl ⟨q10.2.2,q4.lt⟩,q8⟩,r6,r7,r8,r9,hT,fun e=>e.2 rfl,fun k q=>by rcases q.1 with q | q <;> omega,fun k hk q=>growZ.gr _ _ _ _ k hk q.1,r3.mono (fun k _ e=>?_)⟩
 rcases e with e | e | e
 ·exact q5 k e
 ·exact e ▸ q10.2.2
 ·exact e ▸ q9.2.2
theorem StM.commitLarge{c:Nat}{val:Nat->List Int}(h:StM Y w j c p st nb K fr bl d s t x m n a ss ms val){home:Nat->List Int}(ho:On d s nb fr bl lo home Ts)(hlo:16<=bl)(hfit:fr+bl<=nb)(hnb:nb<=524288)(hk:bl / 2-4<(homeKeys nb (LofA a val)).length)(hh:∀y,y∈homeKeys nb (LofA a val)->homeC nb fr bl (y:Int)=0) :
  Calls Tryz.prog 34 #[.pointer (some ⟨t,0,none⟩)] w fun e w'=>∃Y',e=.returned (.int .i64 44)/\StA Y' w' j c p st nb K fr bl d s/\Txb w' t j .nilIface st (.pointer none)/\¬Y' t/\(∀k,Y' k->k<w'.heap.size)/\Gr Y Y' w/\But Y w w':=by
 obtain⟨Z,Zw,sv,mv,q1,q2,q3,q4,q5,q6,q8,q9,q10⟩:=h
 obtain⟨D,hWq⟩:=q2.wq
 have hpl:=ho.puts hlo hfit hnb
 refine Calls.mono (commit_any q1 (ho.jn hlo hfit hnb) hWq (fun k _ e=>(q6 k e).2) ho.on (by omega) hnb q3 q4 q8 q9.1 q10.1 q9.2.1 q10.2.1) ?_
 intro e w' H
 have hT:=H.txb q9.1
 obtain⟨r1,r2,r3,r4⟩:=H.large q1 ho hk hh q9.1 q10.1
 have hs:=r3.size
 exact⟨fun k=>grow Y w w' k/\k≠t,r1,⟨fun k=>Z k/\k<w.heap.size,r4,fun k q=>⟨.inl ⟨q5 k q.1,q.2⟩,fun e=>q9.1 (e ▸ q.1)⟩,r2,fun e=>q10.1 e.1,.inl ⟨q10.2.2,q4.lt⟩,q8⟩,hT,fun e=>e.2 rfl,fun k q=>by rcases q.1 with q | q <;> omega,fun k hk q=>grow.gr Y w w' k hk q.1,r3.mono (fun k _ e=>e.elim (fun q=>q ▸ q10.2.2) (fun q=>q ▸ q9.2.2))⟩
theorem Cq.fuse0{c room:Nat}(h:Cq Z w c p room nb K d) :
  Calls Tryz.prog 17 #[.pointer (some ⟨p,0,none⟩),.int .i64 0] w fun e w'=>(∃v,e=.returned (.int .i64 v))/\(∃Z',Cq Z' w' c p room nb K ⟨d.img,d.puts,if d.off then d.fu else 0,d.off⟩/\Gr Z Z' w)/\But Z w w':=by
 obtain⟨X,Y,hi,mi,l,h1,h2,h3,h4,h5,h6,h7⟩:=h
 refine Calls.mono (Fuse_any h1.dk 0 (by decide)) ?_
 rintro e w' ⟨rfl,d1,b1⟩
 have e1:(if fuseR d.off 0=0 then (0:Int) else d.fu)=if d.off then d.fu else 0:=by
  unfold fuseR
  cases d.off <;> simp
 rw[e1]at d1
 refine⟨⟨_,rfl⟩,?_,b1.mono (fun k _ q=>h2 k q)⟩
 refine Cq.mk' (X:=X) (Y:=Y) (X':=X) (Y':=fun k=>Y k/\k<w.heap.size) (hi:=hi) (mi:=mi) (l:=l) (d:=⟨d.img,d.puts,if d.off then d.fu else 0,d.off⟩) ⟨h1.ca.cut.but b1 (fun k q=>h1.dj k q.1),d1,fun k q q'=>h1.dj k q.1 q'⟩ (fun k _=>⟨id,fun q=>q.1⟩) h2 h3 h5 h6 h7
theorem Cq.dflush{c room:Nat}(h:Cq Z w c p room nb K d)(hl:d.puts.length<=1073741824)(hz:d.off=true\/d.fu=0) :
  Calls Tryz.prog 85 #[.pointer (some ⟨p,0,none⟩)] w fun e w'=>(∃v,e=.returned (.int .i64 v))/\(∃Z',Cq Z' w' c p room nb K ⟨d.img,d.puts,d.fu,true⟩/\Gr Z Z' w)/\But Z w w':=by
 obtain⟨X,Y,hi,mi,l,h1,h2,h3,h4,h5,h6,h7⟩:=h
 refine Calls.mono (Flush_any h1.dk hl) ?_
 rintro e w' ⟨rfl,d1,b1⟩
 have e2:flushC d.off d.fu=24/\afterF d.off d.fu=d.fu/\afterO d.off d.fu=true:=by
  unfold flushC afterF afterO burnC burnF burnO
  cases ho:d.off
  ·have hf:d.fu=0:=by
    rcases hz with q | q
    ·rw[ho]at q;cases q
    ·exact q
   rw[hf]
   exact⟨rfl,rfl,rfl⟩
  ·exact⟨rfl,by simp,rfl⟩
 rw[e2.1,e2.2.1,e2.2.2,if_neg (by decide),if_neg (by decide)]at d1
 refine⟨⟨_,rfl⟩,?_,b1.mono (fun k _ q=>h2 k q)⟩
 refine Cq.mk' (X:=X) (Y:=Y) (X':=fun x=>X x\/w.heap.size<=x) (Y':=fun k=>Y k/\k<w.heap.size) (hi:=hi) (mi:=mi) (l:=l) (d:=⟨d.img,d.puts,d.fu,true⟩) ⟨h1.ca.cut.but b1 (fun k q=>h1.dj k q.1),d1,fun k q q'=>?_⟩ (fun k hk=>⟨fun q=>?_,fun q=>q.1⟩) h2 h3 h5 h6 h7
 ·rcases q' with q' | q'
  ·exact h1.dj k q.1 q'
  ·omega
 ·rcases q with q | q
  ·exact q
  ·omega
theorem JqW.lift{c room:Nat}{D:DataW (Nat×Nat)}{a:Nat->Option (Nat×Nat)}(h:JqW Z Zc w j c p room nb K fr bl m n D a d s)(H:(∃Z',Cq Z' w' c p room nb K d'/\Gr Zc Z' w)/\But Zc w w'):(∃Z',Jq Z' w' j c p room nb K fr bl d' s/\Gr Z Z' w)/\But Z w w':=by
 obtain⟨⟨Zc',q1,q2⟩,q3⟩:=H
 exact⟨⟨_,⟨_,_,_,_,_,h.turn q1 q2 q3⟩,JqW.turn_gr h.sub q2⟩,q3.mono (fun k _ e=>h.sub k e)⟩
theorem StO.fuse0{c:Nat}(h:StO Y w j c p st nb K fr bl d s o) :
  Calls Tryz.prog 17 #[.pointer (some ⟨p,0,none⟩),.int .i64 0] w fun e w'=>∃v Y',e=.returned (.int .i64 v)/\StO Y' w' j c p st nb K fr bl ⟨d.img,d.puts,if d.off then d.fu else 0,d.off⟩ s o/\(∀k,Y' k->k<w'.heap.size)/\Gr Y Y' w/\But Y w w':=by
 obtain⟨Z,⟨Zc,m,n,D,a,h1⟩,hcl⟩:=h.open
 refine Calls.mono h1.cq.fuse0 ?_
 rintro e w' ⟨⟨v,rfl⟩,q⟩
 obtain⟨q1,q2⟩:=h1.lift q
 obtain⟨Y',r⟩:=hcl w' _ _ _ q1 q2
 exact⟨v,Y',rfl,r⟩
theorem StO.dflush{c:Nat}(h:StO Y w j c p st nb K fr bl d s o)(hl:d.puts.length<=1073741824)(hz:d.off=true\/d.fu=0) :
  Calls Tryz.prog 85 #[.pointer (some ⟨p,0,none⟩)] w fun e w'=>∃v Y',e=.returned (.int .i64 v)/\StO Y' w' j c p st nb K fr bl ⟨d.img,d.puts,d.fu,true⟩ s o/\(∀k,Y' k->k<w'.heap.size)/\Gr Y Y' w/\But Y w w':=by
 obtain⟨Z,⟨Zc,m,n,D,a,h1⟩,hcl⟩:=h.open
 refine Calls.mono (h1.cq.dflush hl hz) ?_
 rintro e w' ⟨⟨v,rfl⟩,q⟩
 obtain⟨q1,q2⟩:=h1.lift q
 obtain⟨Y',r⟩:=hcl w' _ _ _ q1 q2
 exact⟨v,Y',rfl,r⟩
theorem StO.don{c:Nat}(h:StO Y w j c p st nb K fr bl d s o) :
  Calls Tryz.prog 54 #[.pointer (some ⟨p,0,none⟩)] w fun e w'=>e=.returned (.bool (!d.off))/\Below w.heap.size w w':=by
 obtain⟨Z,⟨Zc,m,n,D,a,h1⟩,_⟩:=h.jq
 exact On_any h1.cq.dk
theorem sflush_on{c room:Nat}(h:Jq Z w j c p room nb K fr bl d s)(hon:d.off=false)(hl:d.puts.length<=1073741824)(hs:Stb w st j tv) :
  Calls Tryz.prog 30 #[.pointer (some ⟨st,0,none⟩)] w (Did Z w j c p room nb K fr bl d [.fl] s):=by
 obtain⟨PO,hPO⟩:∃PO:Ending->World->Prop,PO=Did Z w j c p room nb K fr bl d [.fl] s:=⟨_,rfl⟩
 rw[<- hPO]
 have HA:=hid (sask_any h hs)
 rw[hon]at HA
 have HF:Hid (∀w1,Below w.heap.size w w1->w1.cell? ⟨st,0,none⟩=some (.pointer (some ⟨j,0,none⟩))/\Calls Tryz.prog 64 #[.pointer (some ⟨j,0,none⟩)] w1 fun e w'=>∃v,e=.returned (.int .i64 v)/\PO (.returned (.int .i64 v)) w'):=fun w1 b1=>by
  refine⟨(b1.cell (p:=⟨st,0,none⟩) hs.lt).trans (hs.cell 0),?_⟩
  refine Calls.mono (Flush_on (h.cut.below b1) hon hl) ?_
  rintro e w' ⟨rfl,⟨Z',s',r1,r2,r3⟩,r4⟩
  refine⟨_,rfl,?_⟩
  rw[hPO]
  exact⟨rfl,⟨Z',s',r1,r2,fun k hk e=>(r3 k (Nat.lt_of_lt_of_le hk b1.size) e).1⟩,(But.of_below b1).comp r4 (fun k _ e=>e.1)⟩
 clear h hs hPO
 go_enter Tryz.func30,Tryz.ntmps30
 go_wp2_with fail
 refine Calls.mono HA.out ?_
 rintro e w1 ⟨rfl,b1⟩
 obtain⟨c0,hc⟩:=HF.out w1 b1
 have HF1:=hid hc
 clear b1 HA HF hc
 go_wp2_with fail
 refine Calls.mono HF1.out ?_
 rintro e w3 ⟨v,rfl,q⟩
 have FIN:=hid q
 clear q HF1
 go_wp2
 exact FIN.out
theorem StO.flush{c:Nat}(h:StO Y w j c p st nb K fr bl d s o){home:Nat->List Int}(ho:On d s nb fr bl lo home Ts)(hfu:d.fu=-1)(hlo:16<=bl)(hfit:fr+bl<=nb)(hnb:nb<=524288) :
  Calls Tryz.prog 30 #[.pointer (some ⟨st,0,none⟩)] w fun e w'=>∃Y' d',e=.returned (.int .i64 0)/\StO Y' w' j c p st nb K fr bl d' s o/\d'.fu=-1/\On d' s nb fr bl Ts.length home Ts/\(∀k,Y' k->k<w'.heap.size)/\Gr Y Y' w/\But Y w w':=by
 obtain⟨_,_,_,hS,_⟩:=h.jq
 obtain⟨Z,hJ,hcl⟩:=h.open
 have hpl:=ho.puts hlo hfit hnb
 refine Calls.mono (sflush_on hJ ho.on (by omega) hS) ?_
 rintro e w' ⟨rfl,⟨Z',s',r1,r2,r3⟩,r4⟩
 obtain⟨f1,_,f3⟩:=Pd.runs_free ho.on hfu [.fl]
 obtain rfl:=r2 f1
 obtain⟨Y',q1,q2,q3,q4⟩:=hcl w' K _ _ ⟨Z',r1,r3⟩ r4
 exact⟨Y',_,by rw[f1],q1,f3,(ho.flush hJ.fits.1 hlo hfit hnb).1 f1,q2,q3,q4⟩
open Go.RowKit
def homeR (nb:Nat) (fr bl at_:Int):Int:=if at_<0\/(nb:Int)<=at_\/(fr<=at_/\at_<fr+bl) then 42 else 0
def StrR (w:World) (v:Value) (xs:List ByteArray):Prop:=∃a c,v=.slice a xs.length c/\∀i S,xs[i]?=some S->∃g,a=some ⟨g,0,none⟩/\g<w.heap.size/\w.cell? ⟨g,i,none⟩=some (.string S)
def Rs5 (w:World) (g nb fr bl:Nat) (fv dv:Value) (sure:Int) (ov:Value) (off:Bool):Prop:=w.heap[g]?=some (.cells #[.int .i64 (nb:Int),.int .i64 (fr:Int),.int .i64 (bl:Int),fv,dv,.int .i64 sure,ov,.bool off] 67 (0,0))
theorem Rs5.cell{g:Nat}{sure:Int}(h:Rs5 w g nb fr bl fv dv sure ov off)(i:Nat):w.cell? ⟨g,i,none⟩=#[.int .i64 (nb:Int),.int .i64 (fr:Int),.int .i64 (bl:Int),fv,dv,.int .i64 sure,ov,.bool off][i]?:=by
 unfold Rs5 at h
 simp[World.cell?,h]
theorem Rs5.frozen{g:Nat}{sure:Int}(h:Rs5 w g nb fr bl fv dv sure ov off)(i:Nat):w.frozen? ⟨g,i,none⟩=false:=by
 unfold Rs5 at h
 simp[World.frozen?,h]
theorem Rs5.lt{g:Nat}{sure:Int}(h:Rs5 w g nb fr bl fv dv sure ov off):g<w.heap.size:=(Array.getElem?_eq_some_iff.1 h).1
theorem Rs5.keep{g:Nat}{sure:Int}(h:Rs5 w g nb fr bl fv dv sure ov off)(hk:w'.heap[g]?=w.heap[g]?):Rs5 w' g nb fr bl fv dv sure ov off:=hk.trans h
theorem rat5_any{g:Nat}{sure:Int}(h:Rs5 w g nb fr bl fv dv sure ov off)(hnb:nb<=524288)(hfit:fr+bl<=nb)(at_:Int):Calls Tryz.prog 75 #[.pointer (some ⟨g,0,none⟩),.int .i64 at_] w fun e w'=>e=.returned (.int .i64 (homeR nb fr bl at_))/\Below w.heap.size w w':=by
 have FIN:Hid (Below w.heap.size w w.drew):=(Below.refl _ _).drew
 have c0:=h.cell 0
 have c1:=h.cell 1
 have c2:=h.cell 2
 simp at c0 c1 c2
 obtain⟨code,hcode⟩:∃code:Int,code=homeR nb fr bl at_:=⟨_,rfl⟩
 rw[<- hcode]
 unfold homeR at hcode
 have HCd:=hid hcode
 clear hcode h
 obtain⟨to_,hto⟩:∃to_:Int,to_=(fr:Int)+(bl:Int):=⟨_,rfl⟩
 have hs1:IntKind.i64.wrap ((fr:Int)+(bl:Int))=to_:=by rw[hto,IntKind.wrap_i64];omega
 have HTO:=hid hto
 clear hto
 by_cases h1:at_<0
 ·have hc2:=HCd.out
  rw[if_pos (.inl h1)]at hc2
  subst hc2
  have d1:decide (at_<0)=true:=decide_eq_true h1
  clear HCd h1 hnb hfit
  go_enter Tryz.func75,Tryz.ntmps75
  go_wp2_with fail
  refine wp_region_held_drew (S:=fun w'=>w'.cell? ⟨g,0,none⟩=some (.int .i64 (nb:Int))/\w'.cell? ⟨g,1,none⟩=some (.int .i64 (fr:Int))/\w'.cell? ⟨g,2,none⟩=some (.int .i64 (bl:Int))) (by kernel_rfl) ⟨c0,c1,c2⟩ (fun hSS=>?_)
  refine tk 0 (some 5) (.move (.tmp 1)) 3 none hSS ?_
  refine tk 1 (some 6) (.binOp .lss 3 (.tmp 5) (.const (.int .i64 0)) 3) 4 none hSS ?_
  refine tk 2 (some 7) (.move (.tmp 6)) 4 none hSS ?_
  refine sk 3 (some 8) (.move (.tmp 1)) 3 (some (2,false)) hSS ?_
  try simp only[Act.put,zA,zB,zC]
  refine sk 4 (some 9) (.move (.tmp 0)) 52 (some (2,false)) hSS ?_
  refine sk 5 (some 10) (.nilCheck (.tmp 9)) 0 (some (2,false)) hSS ?_
  refine sk 6 (some 11) (.fieldAddr 67 (.tmp 10) 0) 0 (some (2,false)) hSS ?_
  refine sk 7 (some 12) (.load 3 (.tmp 11)) 3 (some (2,false)) hSS ?_
  try simp only[Act.put,zA,zB,zC]
  refine sk 8 (some 13) (.binOp .geq 3 (.tmp 8) (.tmp 12) 3) 4 (some (2,false)) hSS ?_
  refine tk 9 (some 14) (.pick (.tmp 7) (.const (.bool true)) (.tmp 13)) 4 none hSS ?_
  refine tk 10 (some 15) (.move (.tmp 14)) 4 none hSS ?_
  refine sk 11 (some 16) (.move (.tmp 1)) 3 (some (10,false)) hSS ?_
  try simp only[Act.put,zA,zB,zC]
  refine sk 12 (some 17) (.move (.tmp 0)) 52 (some (10,false)) hSS ?_
  refine sk 13 (some 18) (.nilCheck (.tmp 17)) 0 (some (10,false)) hSS ?_
  refine sk 14 (some 19) (.fieldAddr 67 (.tmp 18) 1) 0 (some (10,false)) hSS ?_
  refine sk 15 (some 20) (.load 3 (.tmp 19)) 3 (some (10,false)) hSS ?_
  try simp only[Act.put,zA,zB,zC]
  refine sk 16 (some 21) (.binOp .geq 3 (.tmp 16) (.tmp 20) 3) 4 (some (10,false)) hSS ?_
  refine sk 17 (some 22) (.move (.tmp 21)) 4 (some (10,false)) hSS ?_
  refine sk 18 (some 23) (.move (.tmp 1)) 3 (some (17,true)) hSS ?_
  refine sk 19 (some 24) (.move (.tmp 0)) 52 (some (17,true)) hSS ?_
  try simp only[Act.put,zA,zB,zC]
  refine sk 20 (some 25) (.nilCheck (.tmp 24)) 0 (some (17,true)) hSS ?_
  refine sk 21 (some 26) (.fieldAddr 67 (.tmp 25) 1) 0 (some (17,true)) hSS ?_
  refine sk 22 (some 27) (.load 3 (.tmp 26)) 3 (some (17,true)) hSS ?_
  refine sk 23 (some 28) (.move (.tmp 0)) 52 (some (17,true)) hSS ?_
  try simp only[Act.put,zA,zB,zC]
  refine sk 24 (some 29) (.nilCheck (.tmp 28)) 0 (some (17,true)) hSS ?_
  refine sk 25 (some 30) (.fieldAddr 67 (.tmp 29) 2) 0 (some (17,true)) hSS ?_
  refine sk 26 (some 31) (.load 3 (.tmp 30)) 3 (some (17,true)) hSS ?_
  refine sk 27 (some 32) (.binOp .add 3 (.tmp 27) (.tmp 31) 3) 3 (some (17,true)) hSS ?_
  try simp only[Act.put,zA,zB,zC]
  refine sk 28 (some 33) (.binOp .lss 3 (.tmp 23) (.tmp 32) 3) 4 (some (17,true)) hSS ?_
  refine sk 29 (some 34) (.pick (.tmp 22) (.tmp 33) (.const (.bool false))) 4 (some (10,false)) hSS ?_
  refine tk 30 (some 35) (.pick (.tmp 15) (.const (.bool true)) (.tmp 34)) 4 none hSS ?_
  try simp only[Act.put,zA,zB,zC]
  refine wpAnyH_done (by kernel_rfl) ?_ _
  go_wp2
  go_ret
  exact⟨rfl,FIN.out⟩
 ·have d1:decide (at_<0)=false:=decide_eq_false h1
  by_cases h2:(nb:Int)<=at_
  ·have hc2:=HCd.out
   rw[if_pos (.inr (.inl h2))]at hc2
   subst hc2
   have d2:decide ((nb:Int)<=at_)=true:=decide_eq_true h2
   clear HCd h1 h2 hnb hfit
   go_enter Tryz.func75,Tryz.ntmps75
   go_wp2_with fail
   refine wp_region_held_drew (S:=fun w'=>w'.cell? ⟨g,0,none⟩=some (.int .i64 (nb:Int))/\w'.cell? ⟨g,1,none⟩=some (.int .i64 (fr:Int))/\w'.cell? ⟨g,2,none⟩=some (.int .i64 (bl:Int))) (by kernel_rfl) ⟨c0,c1,c2⟩ (fun hSS=>?_)
   refine tk 0 (some 5) (.move (.tmp 1)) 3 none hSS ?_
   refine tk 1 (some 6) (.binOp .lss 3 (.tmp 5) (.const (.int .i64 0)) 3) 4 none hSS ?_
   try simp only[Act.put,zA,zB,zC]
   refine tk 2 (some 7) (.move (.tmp 6)) 4 none hSS ?_
   refine tk 3 (some 8) (.move (.tmp 1)) 3 (some (2,false)) hSS ?_
   refine tk 4 (some 9) (.move (.tmp 0)) 52 (some (2,false)) hSS ?_
   refine tk 5 (some 10) (.nilCheck (.tmp 9)) 0 (some (2,false)) hSS ?_
   try simp only[Act.put,zA,zB,zC]
   refine tk 6 (some 11) (.fieldAddr 67 (.tmp 10) 0) 0 (some (2,false)) hSS ?_
   refine tk 7 (some 12) (.load 3 (.tmp 11)) 3 (some (2,false)) hSS ?_
   refine tk 8 (some 13) (.binOp .geq 3 (.tmp 8) (.tmp 12) 3) 4 (some (2,false)) hSS ?_
   refine tk 9 (some 14) (.pick (.tmp 7) (.const (.bool true)) (.tmp 13)) 4 none hSS ?_
   try simp only[Act.put,zA,zB,zC]
   refine tk 10 (some 15) (.move (.tmp 14)) 4 none hSS ?_
   refine sk 11 (some 16) (.move (.tmp 1)) 3 (some (10,false)) hSS ?_
   refine sk 12 (some 17) (.move (.tmp 0)) 52 (some (10,false)) hSS ?_
   refine sk 13 (some 18) (.nilCheck (.tmp 17)) 0 (some (10,false)) hSS ?_
   try simp only[Act.put,zA,zB,zC]
   refine sk 14 (some 19) (.fieldAddr 67 (.tmp 18) 1) 0 (some (10,false)) hSS ?_
   refine sk 15 (some 20) (.load 3 (.tmp 19)) 3 (some (10,false)) hSS ?_
   refine sk 16 (some 21) (.binOp .geq 3 (.tmp 16) (.tmp 20) 3) 4 (some (10,false)) hSS ?_
   refine sk 17 (some 22) (.move (.tmp 21)) 4 (some (10,false)) hSS ?_
   try simp only[Act.put,zA,zB,zC]
   refine sk 18 (some 23) (.move (.tmp 1)) 3 (some (17,true)) hSS ?_
   refine sk 19 (some 24) (.move (.tmp 0)) 52 (some (17,true)) hSS ?_
   refine sk 20 (some 25) (.nilCheck (.tmp 24)) 0 (some (17,true)) hSS ?_
   refine sk 21 (some 26) (.fieldAddr 67 (.tmp 25) 1) 0 (some (17,true)) hSS ?_
   try simp only[Act.put,zA,zB,zC]
   refine sk 22 (some 27) (.load 3 (.tmp 26)) 3 (some (17,true)) hSS ?_
   refine sk 23 (some 28) (.move (.tmp 0)) 52 (some (17,true)) hSS ?_
   refine sk 24 (some 29) (.nilCheck (.tmp 28)) 0 (some (17,true)) hSS ?_
   refine sk 25 (some 30) (.fieldAddr 67 (.tmp 29) 2) 0 (some (17,true)) hSS ?_
   try simp only[Act.put,zA,zB,zC]
   refine sk 26 (some 31) (.load 3 (.tmp 30)) 3 (some (17,true)) hSS ?_
   refine sk 27 (some 32) (.binOp .add 3 (.tmp 27) (.tmp 31) 3) 3 (some (17,true)) hSS ?_
   refine sk 28 (some 33) (.binOp .lss 3 (.tmp 23) (.tmp 32) 3) 4 (some (17,true)) hSS ?_
   refine sk 29 (some 34) (.pick (.tmp 22) (.tmp 33) (.const (.bool false))) 4 (some (10,false)) hSS ?_
   try simp only[Act.put,zA,zB,zC]
   refine tk 30 (some 35) (.pick (.tmp 15) (.const (.bool true)) (.tmp 34)) 4 none hSS ?_
   try simp only[Act.put,zA,zB,zC]
   refine wpAnyH_done (by kernel_rfl) ?_ _
   go_wp2
   go_ret
   exact⟨rfl,FIN.out⟩
  ·have d2:decide ((nb:Int)<=at_)=false:=decide_eq_false h2
   by_cases h3:(fr:Int)<=at_
   ·have d3:decide ((fr:Int)<=at_)=true:=decide_eq_true h3
    by_cases h4:at_<to_
    ·have hc2:=HCd.out
     rw[if_pos (.inr (.inr ⟨h3,by rw[<- HTO.out];exact h4⟩))]at hc2
     subst hc2
     have d4:decide (at_<to_)=true:=decide_eq_true h4
     clear HCd h1 h2 h3 h4 hnb hfit
     go_enter Tryz.func75,Tryz.ntmps75
     go_wp2_with fail
     refine wp_region_held_drew (S:=fun w'=>w'.cell? ⟨g,0,none⟩=some (.int .i64 (nb:Int))/\w'.cell? ⟨g,1,none⟩=some (.int .i64 (fr:Int))/\w'.cell? ⟨g,2,none⟩=some (.int .i64 (bl:Int))) (by kernel_rfl) ⟨c0,c1,c2⟩ (fun hSS=>?_)
     refine tk 0 (some 5) (.move (.tmp 1)) 3 none hSS ?_
     refine tk 1 (some 6) (.binOp .lss 3 (.tmp 5) (.const (.int .i64 0)) 3) 4 none hSS ?_
     refine tk 2 (some 7) (.move (.tmp 6)) 4 none hSS ?_
     refine tk 3 (some 8) (.move (.tmp 1)) 3 (some (2,false)) hSS ?_
     try simp only[Act.put,zA,zB,zC]
     refine tk 4 (some 9) (.move (.tmp 0)) 52 (some (2,false)) hSS ?_
     refine tk 5 (some 10) (.nilCheck (.tmp 9)) 0 (some (2,false)) hSS ?_
     refine tk 6 (some 11) (.fieldAddr 67 (.tmp 10) 0) 0 (some (2,false)) hSS ?_
     refine tk 7 (some 12) (.load 3 (.tmp 11)) 3 (some (2,false)) hSS ?_
     try simp only[Act.put,zA,zB,zC]
     refine tk 8 (some 13) (.binOp .geq 3 (.tmp 8) (.tmp 12) 3) 4 (some (2,false)) hSS ?_
     refine tk 9 (some 14) (.pick (.tmp 7) (.const (.bool true)) (.tmp 13)) 4 none hSS ?_
     refine tk 10 (some 15) (.move (.tmp 14)) 4 none hSS ?_
     refine tk 11 (some 16) (.move (.tmp 1)) 3 (some (10,false)) hSS ?_
     try simp only[Act.put,zA,zB,zC]
     refine tk 12 (some 17) (.move (.tmp 0)) 52 (some (10,false)) hSS ?_
     refine tk 13 (some 18) (.nilCheck (.tmp 17)) 0 (some (10,false)) hSS ?_
     refine tk 14 (some 19) (.fieldAddr 67 (.tmp 18) 1) 0 (some (10,false)) hSS ?_
     refine tk 15 (some 20) (.load 3 (.tmp 19)) 3 (some (10,false)) hSS ?_
     try simp only[Act.put,zA,zB,zC]
     refine tk 16 (some 21) (.binOp .geq 3 (.tmp 16) (.tmp 20) 3) 4 (some (10,false)) hSS ?_
     refine tk 17 (some 22) (.move (.tmp 21)) 4 (some (10,false)) hSS ?_
     refine tk 18 (some 23) (.move (.tmp 1)) 3 (some (17,true)) hSS ?_
     refine tk 19 (some 24) (.move (.tmp 0)) 52 (some (17,true)) hSS ?_
     try simp only[Act.put,zA,zB,zC]
     refine tk 20 (some 25) (.nilCheck (.tmp 24)) 0 (some (17,true)) hSS ?_
     refine tk 21 (some 26) (.fieldAddr 67 (.tmp 25) 1) 0 (some (17,true)) hSS ?_
     refine tk 22 (some 27) (.load 3 (.tmp 26)) 3 (some (17,true)) hSS ?_
     refine tk 23 (some 28) (.move (.tmp 0)) 52 (some (17,true)) hSS ?_
     try simp only[Act.put,zA,zB,zC]
     refine tk 24 (some 29) (.nilCheck (.tmp 28)) 0 (some (17,true)) hSS ?_
     refine tk 25 (some 30) (.fieldAddr 67 (.tmp 29) 2) 0 (some (17,true)) hSS ?_
     refine tk 26 (some 31) (.load 3 (.tmp 30)) 3 (some (17,true)) hSS ?_
     refine tk 27 (some 32) (.binOp .add 3 (.tmp 27) (.tmp 31) 3) 3 (some (17,true)) hSS ?_
     try simp only[Act.put,zA,zB,zC]
     refine tk 28 (some 33) (.binOp .lss 3 (.tmp 23) (.tmp 32) 3) 4 (some (17,true)) hSS ?_
     refine tk 29 (some 34) (.pick (.tmp 22) (.tmp 33) (.const (.bool false))) 4 (some (10,false)) hSS ?_
     refine tk 30 (some 35) (.pick (.tmp 15) (.const (.bool true)) (.tmp 34)) 4 none hSS ?_
     try simp only[Act.put,zA,zB,zC]
     refine wpAnyH_done (by kernel_rfl) ?_ _
     go_wp2
     go_ret
     exact⟨rfl,FIN.out⟩
    ·have hc2:=HCd.out
     rw[if_neg (by rw[<- HTO.out];omega)]at hc2
     subst hc2
     have d4:decide (at_<to_)=false:=decide_eq_false h4
     clear HCd h1 h2 h3 h4 hnb hfit
     go_enter Tryz.func75,Tryz.ntmps75
     go_wp2_with fail
     refine wp_region_held_drew (S:=fun w'=>w'.cell? ⟨g,0,none⟩=some (.int .i64 (nb:Int))/\w'.cell? ⟨g,1,none⟩=some (.int .i64 (fr:Int))/\w'.cell? ⟨g,2,none⟩=some (.int .i64 (bl:Int))) (by kernel_rfl) ⟨c0,c1,c2⟩ (fun hSS=>?_)
     refine tk 0 (some 5) (.move (.tmp 1)) 3 none hSS ?_
     refine tk 1 (some 6) (.binOp .lss 3 (.tmp 5) (.const (.int .i64 0)) 3) 4 none hSS ?_
     try simp only[Act.put,zA,zB,zC]
     refine tk 2 (some 7) (.move (.tmp 6)) 4 none hSS ?_
     refine tk 3 (some 8) (.move (.tmp 1)) 3 (some (2,false)) hSS ?_
     refine tk 4 (some 9) (.move (.tmp 0)) 52 (some (2,false)) hSS ?_
     refine tk 5 (some 10) (.nilCheck (.tmp 9)) 0 (some (2,false)) hSS ?_
     try simp only[Act.put,zA,zB,zC]
     refine tk 6 (some 11) (.fieldAddr 67 (.tmp 10) 0) 0 (some (2,false)) hSS ?_
     refine tk 7 (some 12) (.load 3 (.tmp 11)) 3 (some (2,false)) hSS ?_
     refine tk 8 (some 13) (.binOp .geq 3 (.tmp 8) (.tmp 12) 3) 4 (some (2,false)) hSS ?_
     refine tk 9 (some 14) (.pick (.tmp 7) (.const (.bool true)) (.tmp 13)) 4 none hSS ?_
     try simp only[Act.put,zA,zB,zC]
     refine tk 10 (some 15) (.move (.tmp 14)) 4 none hSS ?_
     refine tk 11 (some 16) (.move (.tmp 1)) 3 (some (10,false)) hSS ?_
     refine tk 12 (some 17) (.move (.tmp 0)) 52 (some (10,false)) hSS ?_
     refine tk 13 (some 18) (.nilCheck (.tmp 17)) 0 (some (10,false)) hSS ?_
     try simp only[Act.put,zA,zB,zC]
     refine tk 14 (some 19) (.fieldAddr 67 (.tmp 18) 1) 0 (some (10,false)) hSS ?_
     refine tk 15 (some 20) (.load 3 (.tmp 19)) 3 (some (10,false)) hSS ?_
     refine tk 16 (some 21) (.binOp .geq 3 (.tmp 16) (.tmp 20) 3) 4 (some (10,false)) hSS ?_
     refine tk 17 (some 22) (.move (.tmp 21)) 4 (some (10,false)) hSS ?_
     try simp only[Act.put,zA,zB,zC]
     refine tk 18 (some 23) (.move (.tmp 1)) 3 (some (17,true)) hSS ?_
     refine tk 19 (some 24) (.move (.tmp 0)) 52 (some (17,true)) hSS ?_
     refine tk 20 (some 25) (.nilCheck (.tmp 24)) 0 (some (17,true)) hSS ?_
     refine tk 21 (some 26) (.fieldAddr 67 (.tmp 25) 1) 0 (some (17,true)) hSS ?_
     try simp only[Act.put,zA,zB,zC]
     refine tk 22 (some 27) (.load 3 (.tmp 26)) 3 (some (17,true)) hSS ?_
     refine tk 23 (some 28) (.move (.tmp 0)) 52 (some (17,true)) hSS ?_
     refine tk 24 (some 29) (.nilCheck (.tmp 28)) 0 (some (17,true)) hSS ?_
     refine tk 25 (some 30) (.fieldAddr 67 (.tmp 29) 2) 0 (some (17,true)) hSS ?_
     try simp only[Act.put,zA,zB,zC]
     refine tk 26 (some 31) (.load 3 (.tmp 30)) 3 (some (17,true)) hSS ?_
     refine tk 27 (some 32) (.binOp .add 3 (.tmp 27) (.tmp 31) 3) 3 (some (17,true)) hSS ?_
     refine tk 28 (some 33) (.binOp .lss 3 (.tmp 23) (.tmp 32) 3) 4 (some (17,true)) hSS ?_
     refine tk 29 (some 34) (.pick (.tmp 22) (.tmp 33) (.const (.bool false))) 4 (some (10,false)) hSS ?_
     try simp only[Act.put,zA,zB,zC]
     refine tk 30 (some 35) (.pick (.tmp 15) (.const (.bool true)) (.tmp 34)) 4 none hSS ?_
     try simp only[Act.put,zA,zB,zC]
     refine wpAnyH_done (by kernel_rfl) ?_ _
     go_wp2
     go_ret
     exact⟨rfl,FIN.out⟩
   ·have d3:decide ((fr:Int)<=at_)=false:=decide_eq_false h3
    have hc2:=HCd.out
    rw[if_neg (by omega)]at hc2
    subst hc2
    clear HCd h1 h2 h3 hnb hfit
    go_enter Tryz.func75,Tryz.ntmps75
    go_wp2_with fail
    refine wp_region_held_drew (S:=fun w'=>w'.cell? ⟨g,0,none⟩=some (.int .i64 (nb:Int))/\w'.cell? ⟨g,1,none⟩=some (.int .i64 (fr:Int))/\w'.cell? ⟨g,2,none⟩=some (.int .i64 (bl:Int))) (by kernel_rfl) ⟨c0,c1,c2⟩ (fun hSS=>?_)
    refine tk 0 (some 5) (.move (.tmp 1)) 3 none hSS ?_
    refine tk 1 (some 6) (.binOp .lss 3 (.tmp 5) (.const (.int .i64 0)) 3) 4 none hSS ?_
    refine tk 2 (some 7) (.move (.tmp 6)) 4 none hSS ?_
    refine tk 3 (some 8) (.move (.tmp 1)) 3 (some (2,false)) hSS ?_
    try simp only[Act.put,zA,zB,zC]
    refine tk 4 (some 9) (.move (.tmp 0)) 52 (some (2,false)) hSS ?_
    refine tk 5 (some 10) (.nilCheck (.tmp 9)) 0 (some (2,false)) hSS ?_
    refine tk 6 (some 11) (.fieldAddr 67 (.tmp 10) 0) 0 (some (2,false)) hSS ?_
    refine tk 7 (some 12) (.load 3 (.tmp 11)) 3 (some (2,false)) hSS ?_
    try simp only[Act.put,zA,zB,zC]
    refine tk 8 (some 13) (.binOp .geq 3 (.tmp 8) (.tmp 12) 3) 4 (some (2,false)) hSS ?_
    refine tk 9 (some 14) (.pick (.tmp 7) (.const (.bool true)) (.tmp 13)) 4 none hSS ?_
    refine tk 10 (some 15) (.move (.tmp 14)) 4 none hSS ?_
    refine tk 11 (some 16) (.move (.tmp 1)) 3 (some (10,false)) hSS ?_
    try simp only[Act.put,zA,zB,zC]
    refine tk 12 (some 17) (.move (.tmp 0)) 52 (some (10,false)) hSS ?_
    refine tk 13 (some 18) (.nilCheck (.tmp 17)) 0 (some (10,false)) hSS ?_
    refine tk 14 (some 19) (.fieldAddr 67 (.tmp 18) 1) 0 (some (10,false)) hSS ?_
    refine tk 15 (some 20) (.load 3 (.tmp 19)) 3 (some (10,false)) hSS ?_
    try simp only[Act.put,zA,zB,zC]
    refine tk 16 (some 21) (.binOp .geq 3 (.tmp 16) (.tmp 20) 3) 4 (some (10,false)) hSS ?_
    refine tk 17 (some 22) (.move (.tmp 21)) 4 (some (10,false)) hSS ?_
    refine sk 18 (some 23) (.move (.tmp 1)) 3 (some (17,true)) hSS ?_
    refine sk 19 (some 24) (.move (.tmp 0)) 52 (some (17,true)) hSS ?_
    try simp only[Act.put,zA,zB,zC]
    refine sk 20 (some 25) (.nilCheck (.tmp 24)) 0 (some (17,true)) hSS ?_
    refine sk 21 (some 26) (.fieldAddr 67 (.tmp 25) 1) 0 (some (17,true)) hSS ?_
    refine sk 22 (some 27) (.load 3 (.tmp 26)) 3 (some (17,true)) hSS ?_
    refine sk 23 (some 28) (.move (.tmp 0)) 52 (some (17,true)) hSS ?_
    try simp only[Act.put,zA,zB,zC]
    refine sk 24 (some 29) (.nilCheck (.tmp 28)) 0 (some (17,true)) hSS ?_
    refine sk 25 (some 30) (.fieldAddr 67 (.tmp 29) 2) 0 (some (17,true)) hSS ?_
    refine sk 26 (some 31) (.load 3 (.tmp 30)) 3 (some (17,true)) hSS ?_
    refine sk 27 (some 32) (.binOp .add 3 (.tmp 27) (.tmp 31) 3) 3 (some (17,true)) hSS ?_
    try simp only[Act.put,zA,zB,zC]
    refine sk 28 (some 33) (.binOp .lss 3 (.tmp 23) (.tmp 32) 3) 4 (some (17,true)) hSS ?_
    refine tk 29 (some 34) (.pick (.tmp 22) (.tmp 33) (.const (.bool false))) 4 (some (10,false)) hSS ?_
    refine tk 30 (some 35) (.pick (.tmp 15) (.const (.bool true)) (.tmp 34)) 4 none hSS ?_
    try simp only[Act.put,zA,zB,zC]
    refine wpAnyH_done (by kernel_rfl) ?_ _
    go_wp2
    go_ret
    exact⟨rfl,FIN.out⟩
end Go.Proofs.YthfojpcibnfmgaaGreat
