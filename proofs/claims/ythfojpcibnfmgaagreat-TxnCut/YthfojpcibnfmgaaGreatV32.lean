import Derived.Test.YthfojpcibnfmgaaGreatV31
import Derived.Test.YthfojpcibnfmgaaGreatV01
import Derived.Test.YthfojpcibnfmgaaGreatV11
import Derived.Deep.RegionHeld3
import Derived.LaidEqlPtr
set_option maxRecDepth 100000
set_option maxHeartbeats 16000000
namespace Go.Proofs.YthfojpcibnfmgaaGreat
variable {Y Z Zc:Nat->Prop}
variable {w w':World}
variable {K bl dc fr j lo m n nb p st t x:Nat}
variable {d d':Pd}
variable {ss:List Sp}
variable {ms:List Mr}
variable {Ts:List Tn}
variable {o:Option OT}
variable {dv fv ov tv:Value}
variable {off:Bool}
variable {da:Option Addr}
variable {Fs:List ByteArray}
open Go.RowKit Go.Deep
theorem StA.begin2{c:Nat}{s:Js}(h:StA Y w j c p st nb K fr bl d s)(hon:d.off=false) :
  Calls Tryz.prog 26 #[.pointer (some ⟨st,0,none⟩)] w fun e w'=>∃t x m Y',e=.returned (.tuple #[.pointer (some ⟨t,0,none⟩),.int .i64 0])/\StM Y' w' j c p st nb K fr bl d s t x m 0 (fun _=>none) [] [] (fun _=>[])/\w.heap.size<=t/\(∀k,Y' k->k<w'.heap.size)/\Gr Y Y' w/\But Y w w':=by
 obtain⟨Z,h1,h2,h3,h4,h5⟩:=h
 refine Calls.mono (begin_any h1 hon h3) ?_
 rintro e w' ⟨t,x,m,rfl,⟨q1,q2,q3,q4,q5,q6⟩,r1,r2,r3,r4⟩
 have hsl:=h3.lt
 have hs:=r4.size
 have hxm:x≠m:=by
  intro e
  have hb:=r3.blk
  obtain⟨es,ck,hm,_⟩:=r3.mp
  rw[e,hm]at hb
  cases hb
 have hT:StT (grow Y w w') w' j c p st nb K fr bl d s t x m 0 (fun _=>none) :=
  ⟨fun k=>Z k/\k<w.heap.size,fun k=>k=x\/k=m,_,_,h1.cut.but r4 (fun k _ e1 e2=>h4 (e2 ▸ e1.1)),r3,r1,r2,fun k q=>.inl ⟨h2 k q.1,q.2⟩,fun k q=>⟨.inr (by omega),fun e=>by omega⟩,(fun z g cp k e=>by cases e),⟨hxm,by omega⟩,⟨fun e=>by omega,fun e=>by omega,.inr (by omega)⟩,⟨fun e=>h4 e.1,fun e=>by omega,.inl ⟨h5,hsl⟩⟩⟩
 exact⟨t,x,m,grow Y w w',rfl,hT.stm,q1,fun k q=>by rcases q with q | q <;> omega,grow.gr Y w w',r4.mono (fun k _ e=>e ▸ h5)⟩
theorem StM.abort2{c:Nat}{s:Js}{a:Nat->Option Wr}{val:Nat->List Int}(h:StM Y w j c p st nb K fr bl d s t x m n a ss ms val)(hon:d.off=false) :
  Calls Tryz.prog 35 #[.pointer (some ⟨t,0,none⟩)] w fun e w'=>∃Y',e=.returned (.int .i64 0)/\StA Y' w' j c p st nb K fr bl d s/\Txb w' t j .nilIface st (.pointer none)/\¬Y' t/\(∀k,Y' k->k<w'.heap.size)/\Gr Y Y' w/\But Y w w':=by
 obtain⟨Z,Zw,sv,mv,q1,q2,q3,q4,q5,q6,q8,q9,q10⟩:=h
 refine Calls.mono (abort_any q1 hon q3 q4 q8) ?_
 rintro e w' ⟨rfl,r1,r2,r3⟩
 have hsl:=q4.lt
 have hs:=r3.size
 refine⟨fun k=>grow Y w w' k/\k≠t,rfl,⟨fun k=>Z k/\k<w.heap.size,q1.cut.but r3 (fun k _ e1 e2=>e2.elim (fun q=>q10.1 (q ▸ e1.1)) (fun q=>q9.1 (q ▸ e1.1))),fun k q=>⟨.inl ⟨q5 k q.1,q.2⟩,fun e=>q9.1 (e ▸ q.1)⟩,r2,fun e=>q10.1 e.1,.inl ⟨q10.2.2,hsl⟩,q8⟩,r1,fun e=>e.2 rfl,fun k q=>by rcases q.1 with q | q <;> omega,fun k hk q=>grow.gr Y w w' k hk q.1,r3.mono (fun k _ e=>e.elim (fun q=>q ▸ q10.2.2) (fun q=>q ▸ q9.2.2))⟩
theorem StM.commitLarge{c:Nat}{s:Js}{a:Nat->Option Wr}{val:Nat->List Int}(h:StM Y w j c p st nb K fr bl d s t x m n a ss ms val){home:Nat->List Int}(ho:On d s nb fr bl lo home Ts)(hlo:16<=bl)(hfit:fr+bl<=nb)(hnb:nb<=524288)(hk:bl / 2-4<(homeKeys nb (LofA a val)).length)(hh:∀y,y∈homeKeys nb (LofA a val)->homeC nb fr bl (y:Int)=0) :
  Calls Tryz.prog 34 #[.pointer (some ⟨t,0,none⟩)] w fun e w'=>∃Y',e=.returned (.int .i64 44)/\StA Y' w' j c p st nb K fr bl d s/\Txb w' t j .nilIface st (.pointer none)/\¬Y' t/\(∀k,Y' k->k<w'.heap.size)/\Gr Y Y' w/\But Y w w':=by
 obtain⟨Z,Zw,sv,mv,q1,q2,q3,q4,q5,q6,q8,q9,q10⟩:=h
 obtain⟨D,hWq⟩:=q2.wq
 have hpl:=ho.puts hlo hfit hnb
 refine Calls.mono (commit_any q1 (ho.jn hlo hfit hnb) hWq (fun k _ e=>(q6 k e).2) ho.on (by omega) hnb q3 q4 q8 q9.1 q10.1 q9.2.1 q10.2.1) ?_
 intro e w' H
 have hT:=H.txb q9.1
 obtain⟨r1,r2,r3,r4⟩:=H.large q1 ho hk hh q9.1 q10.1
 have hs:=r3.size
 exact⟨fun k=>grow Y w w' k/\k≠t,r1,⟨fun k=>Z k/\k<w.heap.size,r4,fun k q=>⟨.inl ⟨q5 k q.1,q.2⟩,fun e=>q9.1 (e ▸ q.1)⟩,r2,fun e=>q10.1 e.1,.inl ⟨q10.2.2,q4.lt⟩,q8⟩,hT,fun e=>e.2 rfl,fun k q=>by rcases q.1 with q | q <;> omega,fun k hk q=>grow.gr Y w w' k hk q.1,r3.mono (fun k _ e=>e.elim (fun q=>q ▸ q10.2.2) (fun q=>q ▸ q9.2.2))⟩
theorem Cq.fuse0{c room:Nat}(h:Cq Z w c p room nb K d) :
  Calls Tryz.prog 17 #[.pointer (some ⟨p,0,none⟩),.int .i64 0] w fun e w'=>(∃v,e=.returned (.int .i64 v))/\(∃Z',Cq Z' w' c p room nb K ⟨d.img,d.puts,if d.off then d.fu else 0,d.off⟩/\Gr Z Z' w)/\But Z w w':=by
 obtain⟨X,Y,hi,mi,l,h1,h2,h3,h4,h5,h6,h7⟩:=h
 refine Calls.mono (Fuse_any h1.dk 0 (by decide)) ?_
 rintro e w' ⟨rfl,d1,b1⟩
 have e1:(if fuseR d.off 0=0 then (0:Int) else d.fu)=if d.off then d.fu else 0:=by
  unfold fuseR
  cases d.off <;> simp
 rw[e1]at d1
 refine⟨⟨_,rfl⟩,?_,b1.mono (fun k _ q=>h2 k q)⟩
 refine Cq.mk' (X:=X) (Y:=Y) (X':=X) (Y':=fun k=>Y k/\k<w.heap.size) (hi:=hi) (mi:=mi) (l:=l) (d:=⟨d.img,d.puts,if d.off then d.fu else 0,d.off⟩) ⟨h1.ca.cut.but b1 (fun k q=>h1.dj k q.1),d1,fun k q q'=>h1.dj k q.1 q'⟩ (fun k _=>⟨id,fun q=>q.1⟩) h2 h3 h5 h6 h7
theorem Cq.dflush{c room:Nat}(h:Cq Z w c p room nb K d)(hl:d.puts.length<=1073741824)(hz:d.off=true\/d.fu=0) :
  Calls Tryz.prog 85 #[.pointer (some ⟨p,0,none⟩)] w fun e w'=>(∃v,e=.returned (.int .i64 v))/\(∃Z',Cq Z' w' c p room nb K ⟨d.img,d.puts,d.fu,true⟩/\Gr Z Z' w)/\But Z w w':=by
 obtain⟨X,Y,hi,mi,l,h1,h2,h3,h4,h5,h6,h7⟩:=h
 refine Calls.mono (Flush_any h1.dk hl) ?_
 rintro e w' ⟨rfl,d1,b1⟩
 have e2:flushC d.off d.fu=24/\afterF d.off d.fu=d.fu/\afterO d.off d.fu=true:=by
  unfold flushC afterF afterO burnC burnF burnO
  cases ho:d.off
  ·have hf:d.fu=0:=by
    rcases hz with q | q
    ·rw[ho]at q;cases q
    ·exact q
   rw[hf]
   exact⟨rfl,rfl,rfl⟩
  ·exact⟨rfl,by simp,rfl⟩
 rw[e2.1,e2.2.1,e2.2.2,if_neg (by decide),if_neg (by decide)]at d1
 refine⟨⟨_,rfl⟩,?_,b1.mono (fun k _ q=>h2 k q)⟩
 refine Cq.mk' (X:=X) (Y:=Y) (X':=fun x=>X x\/w.heap.size<=x) (Y':=fun k=>Y k/\k<w.heap.size) (hi:=hi) (mi:=mi) (l:=l) (d:=⟨d.img,d.puts,d.fu,true⟩) ⟨h1.ca.cut.but b1 (fun k q=>h1.dj k q.1),d1,fun k q q'=>?_⟩ (fun k hk=>⟨fun q=>?_,fun q=>q.1⟩) h2 h3 h5 h6 h7
 ·rcases q' with q' | q'
  ·exact h1.dj k q.1 q'
  ·omega
 ·rcases q with q | q
  ·exact q
  ·omega
theorem JqW.lift{c room:Nat}{D:DataW (Nat×Nat)}{a:Nat->Option (Nat×Nat)}{s:Js}(h:JqW Z Zc w j c p room nb K fr bl m n D a d s)(H:(∃Z',Cq Z' w' c p room nb K d'/\Gr Zc Z' w)/\But Zc w w'):(∃Z',Jq Z' w' j c p room nb K fr bl d' s/\Gr Z Z' w)/\But Z w w':=by
 obtain⟨⟨Zc',q1,q2⟩,q3⟩:=H
 exact⟨⟨_,⟨_,_,_,_,_,h.turn q1 q2 q3⟩,JqW.turn_gr h.sub q2⟩,q3.mono (fun k _ e=>h.sub k e)⟩
theorem StO.fuse0{c:Nat}{s:Js}(h:StO Y w j c p st nb K fr bl d s o) :
  Calls Tryz.prog 17 #[.pointer (some ⟨p,0,none⟩),.int .i64 0] w fun e w'=>∃v Y',e=.returned (.int .i64 v)/\StO Y' w' j c p st nb K fr bl ⟨d.img,d.puts,if d.off then d.fu else 0,d.off⟩ s o/\(∀k,Y' k->k<w'.heap.size)/\Gr Y Y' w/\But Y w w':=by
 obtain⟨Z,⟨Zc,m,n,D,a,h1⟩,hcl⟩:=h.open
 refine Calls.mono h1.cq.fuse0 ?_
 rintro e w' ⟨⟨v,rfl⟩,q⟩
 obtain⟨q1,q2⟩:=h1.lift q
 obtain⟨Y',r⟩:=hcl w' _ _ _ q1 q2
 exact⟨v,Y',rfl,r⟩
theorem StO.dflush{c:Nat}{s:Js}(h:StO Y w j c p st nb K fr bl d s o)(hl:d.puts.length<=1073741824)(hz:d.off=true\/d.fu=0) :
  Calls Tryz.prog 85 #[.pointer (some ⟨p,0,none⟩)] w fun e w'=>∃v Y',e=.returned (.int .i64 v)/\StO Y' w' j c p st nb K fr bl ⟨d.img,d.puts,d.fu,true⟩ s o/\(∀k,Y' k->k<w'.heap.size)/\Gr Y Y' w/\But Y w w':=by
 obtain⟨Z,⟨Zc,m,n,D,a,h1⟩,hcl⟩:=h.open
 refine Calls.mono (h1.cq.dflush hl hz) ?_
 rintro e w' ⟨⟨v,rfl⟩,q⟩
 obtain⟨q1,q2⟩:=h1.lift q
 obtain⟨Y',r⟩:=hcl w' _ _ _ q1 q2
 exact⟨v,Y',rfl,r⟩
theorem StO.don{c:Nat}{s:Js}(h:StO Y w j c p st nb K fr bl d s o) :
  Calls Tryz.prog 54 #[.pointer (some ⟨p,0,none⟩)] w fun e w'=>e=.returned (.bool (!d.off))/\Below w.heap.size w w':=by
 obtain⟨Z,⟨Zc,m,n,D,a,h1⟩,_⟩:=h.jq
 exact On_any h1.cq.dk
theorem sflush_on{c room:Nat}{s:Js}(h:Jq Z w j c p room nb K fr bl d s)(hon:d.off=false)(hl:d.puts.length<=1073741824)(hs:Stb w st j tv) :
  Calls Tryz.prog 30 #[.pointer (some ⟨st,0,none⟩)] w (Did Z w j c p room nb K fr bl d [.fl] s):=by
 obtain⟨PO,hPO⟩:∃PO:Ending->World->Prop,PO=Did Z w j c p room nb K fr bl d [.fl] s:=⟨_,rfl⟩
 rw[<- hPO]
 have HA:=hid (sask_any h hs)
 rw[hon]at HA
 have HF:Hid (∀w1,Below w.heap.size w w1->w1.cell? ⟨st,0,none⟩=some (.pointer (some ⟨j,0,none⟩))/\Calls Tryz.prog 64 #[.pointer (some ⟨j,0,none⟩)] w1 fun e w'=>∃v,e=.returned (.int .i64 v)/\PO (.returned (.int .i64 v)) w'):=fun w1 b1=>by
  refine⟨(b1.cell (p:=⟨st,0,none⟩) hs.lt).trans (hs.cell 0),?_⟩
  refine Calls.mono (Flush_on (h.cut.below b1) hon hl) ?_
  rintro e w' ⟨rfl,⟨Z',s',r1,r2,r3⟩,r4⟩
  refine⟨_,rfl,?_⟩
  rw[hPO]
  exact⟨rfl,⟨Z',s',r1,r2,fun k hk e=>(r3 k (Nat.lt_of_lt_of_le hk b1.size) e).1⟩,(But.of_below b1).comp r4 (fun k _ e=>e.1)⟩
 clear h hs hPO
 go_enter Tryz.func30,Tryz.ntmps30
 go_wp2_with fail
 refine Calls.mono HA.out ?_
 rintro e w1 ⟨rfl,b1⟩
 obtain⟨c0,hc⟩:=HF.out w1 b1
 have HF1:=hid hc
 clear b1 HA HF hc
 go_wp2_with fail
 refine Calls.mono HF1.out ?_
 rintro e w3 ⟨v,rfl,q⟩
 have FIN:=hid q
 clear q HF1
 go_wp2
 exact FIN.out
open Go.RowKit
def homeR (nb:Nat) (fr bl at_:Int):Int:=if at_<0\/(nb:Int)<=at_\/(fr<=at_/\at_<fr+bl) then 42 else 0
def StrR (w:World) (v:Value) (xs:List ByteArray):Prop:=∃a c,v=.slice a xs.length c/\∀i S,xs[i]?=some S->∃g,a=some ⟨g,0,none⟩/\g<w.heap.size/\w.cell? ⟨g,i,none⟩=some (.string S)
def Rs5 (w:World) (g nb fr bl:Nat) (fv dv:Value) (sure:Int) (ov:Value) (off:Bool):Prop:=w.heap[g]?=some (.cells #[.int .i64 (nb:Int),.int .i64 (fr:Int),.int .i64 (bl:Int),fv,dv,.int .i64 sure,ov,.bool off] 67 (0,0))
theorem Rs5.cell{g:Nat}{sure:Int}(h:Rs5 w g nb fr bl fv dv sure ov off)(i:Nat):w.cell? ⟨g,i,none⟩=#[.int .i64 (nb:Int),.int .i64 (fr:Int),.int .i64 (bl:Int),fv,dv,.int .i64 sure,ov,.bool off][i]?:=by
 unfold Rs5 at h
 simp[World.cell?,h]
theorem Rs5.frozen{g:Nat}{sure:Int}(h:Rs5 w g nb fr bl fv dv sure ov off)(i:Nat):w.frozen? ⟨g,i,none⟩=false:=by
 unfold Rs5 at h
 simp[World.frozen?,h]
theorem Rs5.lt{g:Nat}{sure:Int}(h:Rs5 w g nb fr bl fv dv sure ov off):g<w.heap.size:=(Array.getElem?_eq_some_iff.1 h).1
theorem Rs5.keep{g:Nat}{sure:Int}(h:Rs5 w g nb fr bl fv dv sure ov off)(hk:w'.heap[g]?=w.heap[g]?):Rs5 w' g nb fr bl fv dv sure ov off:=hk.trans h
theorem rat5_any{g:Nat}{sure:Int}(h:Rs5 w g nb fr bl fv dv sure ov off)(hnb:nb<=524288)(hfit:fr+bl<=nb)(at_:Int):Calls Tryz.prog 75 #[.pointer (some ⟨g,0,none⟩),.int .i64 at_] w fun e w'=>e=.returned (.int .i64 (homeR nb fr bl at_))/\Below w.heap.size w w':=by
 have FIN:Hid (Below w.heap.size w w.drew):=(Below.refl _ _).drew
 have c0:=h.cell 0
 have c1:=h.cell 1
 have c2:=h.cell 2
 simp at c0 c1 c2
 obtain⟨code,hcode⟩:∃code:Int,code=homeR nb fr bl at_:=⟨_,rfl⟩
 rw[<- hcode]
 unfold homeR at hcode
 have HCd:=hid hcode
 clear hcode h
 obtain⟨to_,hto⟩:∃to_:Int,to_=(fr:Int)+(bl:Int):=⟨_,rfl⟩
 have hs1:IntKind.i64.wrap ((fr:Int)+(bl:Int))=to_:=by rw[hto,IntKind.wrap_i64];omega
 have HTO:=hid hto
 clear hto
 by_cases h1:at_<0
 ·have hc2:=HCd.out
  rw[if_pos (.inl h1)]at hc2
  subst hc2
  have d1:decide (at_<0)=true:=decide_eq_true h1
  clear HCd h1 hnb hfit
  go_enter Tryz.func75,Tryz.ntmps75
  go_wp2_with fail
  refine Gz (S:=fun w'=>w'.cell? ⟨g,0,none⟩=some (.int .i64 (nb:Int))/\w'.cell? ⟨g,1,none⟩=some (.int .i64 (fr:Int))/\w'.cell? ⟨g,2,none⟩=some (.int .i64 (bl:Int))) ⟨c0,c1,c2⟩ (fun hSS=>?_)
  refine Ti 0 rfl ?_
  refine Ti 1 rfl ?_
  refine Ti 2 rfl ?_
  refine Si 3 rfl ?_
  try simp only[Act.put,zA,zB,zC]
  refine Si 4 rfl ?_
  refine Si 5 rfl ?_
  refine Si 6 rfl ?_
  refine Si 7 rfl ?_
  try simp only[Act.put,zA,zB,zC]
  refine Si 8 rfl ?_
  refine Ti 9 rfl ?_
  refine Ti 10 rfl ?_
  refine Si 11 rfl ?_
  try simp only[Act.put,zA,zB,zC]
  refine Si 12 rfl ?_
  refine Si 13 rfl ?_
  refine Si 14 rfl ?_
  refine Si 15 rfl ?_
  try simp only[Act.put,zA,zB,zC]
  refine Si 16 rfl ?_
  refine Si 17 rfl ?_
  refine Si 18 rfl ?_
  refine Si 19 rfl ?_
  try simp only[Act.put,zA,zB,zC]
  refine Si 20 rfl ?_
  refine Si 21 rfl ?_
  refine Si 22 rfl ?_
  refine Si 23 rfl ?_
  try simp only[Act.put,zA,zB,zC]
  refine Si 24 rfl ?_
  refine Si 25 rfl ?_
  refine Si 26 rfl ?_
  refine Si 27 rfl ?_
  try simp only[Act.put,zA,zB,zC]
  refine Si 28 rfl ?_
  refine Si 29 rfl ?_
  refine Ti 30 rfl ?_
  try simp only[Act.put,zA,zB,zC]
  refine Dn ?_
  go_wp2
  go_ret
  exact⟨rfl,FIN.out⟩
 ·have d1:decide (at_<0)=false:=decide_eq_false h1
  by_cases h2:(nb:Int)<=at_
  ·have hc2:=HCd.out
   rw[if_pos (.inr (.inl h2))]at hc2
   subst hc2
   have d2:decide ((nb:Int)<=at_)=true:=decide_eq_true h2
   clear HCd h1 h2 hnb hfit
   go_enter Tryz.func75,Tryz.ntmps75
   go_wp2_with fail
   refine Gz (S:=fun w'=>w'.cell? ⟨g,0,none⟩=some (.int .i64 (nb:Int))/\w'.cell? ⟨g,1,none⟩=some (.int .i64 (fr:Int))/\w'.cell? ⟨g,2,none⟩=some (.int .i64 (bl:Int))) ⟨c0,c1,c2⟩ (fun hSS=>?_)
   refine Ti 0 rfl ?_
   refine Ti 1 rfl ?_
   try simp only[Act.put,zA,zB,zC]
   refine Ti 2 rfl ?_
   refine Ti 3 rfl ?_
   refine Ti 4 rfl ?_
   refine Ti 5 rfl ?_
   try simp only[Act.put,zA,zB,zC]
   refine Ti 6 rfl ?_
   refine Ti 7 rfl ?_
   refine Ti 8 rfl ?_
   refine Ti 9 rfl ?_
   try simp only[Act.put,zA,zB,zC]
   refine Ti 10 rfl ?_
   refine Si 11 rfl ?_
   refine Si 12 rfl ?_
   refine Si 13 rfl ?_
   try simp only[Act.put,zA,zB,zC]
   refine Si 14 rfl ?_
   refine Si 15 rfl ?_
   refine Si 16 rfl ?_
   refine Si 17 rfl ?_
   try simp only[Act.put,zA,zB,zC]
   refine Si 18 rfl ?_
   refine Si 19 rfl ?_
   refine Si 20 rfl ?_
   refine Si 21 rfl ?_
   try simp only[Act.put,zA,zB,zC]
   refine Si 22 rfl ?_
   refine Si 23 rfl ?_
   refine Si 24 rfl ?_
   refine Si 25 rfl ?_
   try simp only[Act.put,zA,zB,zC]
   refine Si 26 rfl ?_
   refine Si 27 rfl ?_
   refine Si 28 rfl ?_
   refine Si 29 rfl ?_
   try simp only[Act.put,zA,zB,zC]
   refine Ti 30 rfl ?_
   try simp only[Act.put,zA,zB,zC]
   refine Dn ?_
   go_wp2
   go_ret
   exact⟨rfl,FIN.out⟩
  ·have d2:decide ((nb:Int)<=at_)=false:=decide_eq_false h2
   by_cases h3:(fr:Int)<=at_
   ·have d3:decide ((fr:Int)<=at_)=true:=decide_eq_true h3
    by_cases h4:at_<to_
    ·have hc2:=HCd.out
     rw[if_pos (.inr (.inr ⟨h3,by rw[<- HTO.out];exact h4⟩))]at hc2
     subst hc2
     have d4:decide (at_<to_)=true:=decide_eq_true h4
     clear HCd h1 h2 h3 h4 hnb hfit
     go_enter Tryz.func75,Tryz.ntmps75
     go_wp2_with fail
     refine Gz (S:=fun w'=>w'.cell? ⟨g,0,none⟩=some (.int .i64 (nb:Int))/\w'.cell? ⟨g,1,none⟩=some (.int .i64 (fr:Int))/\w'.cell? ⟨g,2,none⟩=some (.int .i64 (bl:Int))) ⟨c0,c1,c2⟩ (fun hSS=>?_)
     refine Ti 0 rfl ?_
     refine Ti 1 rfl ?_
     refine Ti 2 rfl ?_
     refine Ti 3 rfl ?_
     try simp only[Act.put,zA,zB,zC]
     refine Ti 4 rfl ?_
     refine Ti 5 rfl ?_
     refine Ti 6 rfl ?_
     refine Ti 7 rfl ?_
     try simp only[Act.put,zA,zB,zC]
     refine Ti 8 rfl ?_
     refine Ti 9 rfl ?_
     refine Ti 10 rfl ?_
     refine Ti 11 rfl ?_
     try simp only[Act.put,zA,zB,zC]
     refine Ti 12 rfl ?_
     refine Ti 13 rfl ?_
     refine Ti 14 rfl ?_
     refine Ti 15 rfl ?_
     try simp only[Act.put,zA,zB,zC]
     refine Ti 16 rfl ?_
     refine Ti 17 rfl ?_
     refine Ti 18 rfl ?_
     refine Ti 19 rfl ?_
     try simp only[Act.put,zA,zB,zC]
     refine Ti 20 rfl ?_
     refine Ti 21 rfl ?_
     refine Ti 22 rfl ?_
     refine Ti 23 rfl ?_
     try simp only[Act.put,zA,zB,zC]
     refine Ti 24 rfl ?_
     refine Ti 25 rfl ?_
     refine Ti 26 rfl ?_
     refine Ti 27 rfl ?_
     try simp only[Act.put,zA,zB,zC]
     refine Ti 28 rfl ?_
     refine Ti 29 rfl ?_
     refine Ti 30 rfl ?_
     try simp only[Act.put,zA,zB,zC]
     refine Dn ?_
     go_wp2
     go_ret
     exact⟨rfl,FIN.out⟩
    ·have hc2:=HCd.out
     rw[if_neg (by rw[<- HTO.out];omega)]at hc2
     subst hc2
     have d4:decide (at_<to_)=false:=decide_eq_false h4
     clear HCd h1 h2 h3 h4 hnb hfit
     go_enter Tryz.func75,Tryz.ntmps75
     go_wp2_with fail
     refine Gz (S:=fun w'=>w'.cell? ⟨g,0,none⟩=some (.int .i64 (nb:Int))/\w'.cell? ⟨g,1,none⟩=some (.int .i64 (fr:Int))/\w'.cell? ⟨g,2,none⟩=some (.int .i64 (bl:Int))) ⟨c0,c1,c2⟩ (fun hSS=>?_)
     refine Ti 0 rfl ?_
     refine Ti 1 rfl ?_
     try simp only[Act.put,zA,zB,zC]
     refine Ti 2 rfl ?_
     refine Ti 3 rfl ?_
     refine Ti 4 rfl ?_
     refine Ti 5 rfl ?_
     try simp only[Act.put,zA,zB,zC]
     refine Ti 6 rfl ?_
     refine Ti 7 rfl ?_
     refine Ti 8 rfl ?_
     refine Ti 9 rfl ?_
     try simp only[Act.put,zA,zB,zC]
     refine Ti 10 rfl ?_
     refine Ti 11 rfl ?_
     refine Ti 12 rfl ?_
     refine Ti 13 rfl ?_
     try simp only[Act.put,zA,zB,zC]
     refine Ti 14 rfl ?_
     refine Ti 15 rfl ?_
     refine Ti 16 rfl ?_
     refine Ti 17 rfl ?_
     try simp only[Act.put,zA,zB,zC]
     refine Ti 18 rfl ?_
     refine Ti 19 rfl ?_
     refine Ti 20 rfl ?_
     refine Ti 21 rfl ?_
     try simp only[Act.put,zA,zB,zC]
     refine Ti 22 rfl ?_
     refine Ti 23 rfl ?_
     refine Ti 24 rfl ?_
     refine Ti 25 rfl ?_
     try simp only[Act.put,zA,zB,zC]
     refine Ti 26 rfl ?_
     refine Ti 27 rfl ?_
     refine Ti 28 rfl ?_
     refine Ti 29 rfl ?_
     try simp only[Act.put,zA,zB,zC]
     refine Ti 30 rfl ?_
     try simp only[Act.put,zA,zB,zC]
     refine Dn ?_
     go_wp2
     go_ret
     exact⟨rfl,FIN.out⟩
   ·have d3:decide ((fr:Int)<=at_)=false:=decide_eq_false h3
    have hc2:=HCd.out
    rw[if_neg (by omega)]at hc2
    subst hc2
    clear HCd h1 h2 h3 hnb hfit
    go_enter Tryz.func75,Tryz.ntmps75
    go_wp2_with fail
    refine Gz (S:=fun w'=>w'.cell? ⟨g,0,none⟩=some (.int .i64 (nb:Int))/\w'.cell? ⟨g,1,none⟩=some (.int .i64 (fr:Int))/\w'.cell? ⟨g,2,none⟩=some (.int .i64 (bl:Int))) ⟨c0,c1,c2⟩ (fun hSS=>?_)
    refine Ti 0 rfl ?_
    refine Ti 1 rfl ?_
    refine Ti 2 rfl ?_
    refine Ti 3 rfl ?_
    try simp only[Act.put,zA,zB,zC]
    refine Ti 4 rfl ?_
    refine Ti 5 rfl ?_
    refine Ti 6 rfl ?_
    refine Ti 7 rfl ?_
    try simp only[Act.put,zA,zB,zC]
    refine Ti 8 rfl ?_
    refine Ti 9 rfl ?_
    refine Ti 10 rfl ?_
    refine Ti 11 rfl ?_
    try simp only[Act.put,zA,zB,zC]
    refine Ti 12 rfl ?_
    refine Ti 13 rfl ?_
    refine Ti 14 rfl ?_
    refine Ti 15 rfl ?_
    try simp only[Act.put,zA,zB,zC]
    refine Ti 16 rfl ?_
    refine Ti 17 rfl ?_
    refine Si 18 rfl ?_
    refine Si 19 rfl ?_
    try simp only[Act.put,zA,zB,zC]
    refine Si 20 rfl ?_
    refine Si 21 rfl ?_
    refine Si 22 rfl ?_
    refine Si 23 rfl ?_
    try simp only[Act.put,zA,zB,zC]
    refine Si 24 rfl ?_
    refine Si 25 rfl ?_
    refine Si 26 rfl ?_
    refine Si 27 rfl ?_
    try simp only[Act.put,zA,zB,zC]
    refine Si 28 rfl ?_
    refine Ti 29 rfl ?_
    refine Ti 30 rfl ?_
    try simp only[Act.put,zA,zB,zC]
    refine Dn ?_
    go_wp2
    go_ret
    exact⟨rfl,FIN.out⟩
open Go.RowKit
abbrev Pu:=Int×ByteArray
def PutsL (w:World) (a:Option Addr) (ps:List Pu):Prop:=∀(i:Nat) (q:Pu),ps[i]?=some q->∃g,a=some ⟨g,0,none⟩/\w.cell? ⟨g,i * 2,none⟩=some (.int .i64 q.1)/\w.cell? ⟨g,i * 2+1,none⟩=some (.string q.2)
def DoneL (w:World) (a:Option Addr) (Ds:List (List Pu)):Prop:=∀(i:Nat) (ps:List Pu),Ds[i]?=some ps->∃g pa pc,a=some ⟨g,0,none⟩/\w.cell? ⟨g,i,none⟩=some (.slice pa ps.length pc)/\PutsL w pa ps
def layU (y:Int) (b:ByteArray) (ps:List Pu):ByteArray:=ps.foldl (fun b q=>if q.1=y then q.2 else b) b
theorem layU_snoc(y:Int)(b:ByteArray)(ps:List Pu)(q:Pu):layU y b (ps++[q])=if q.1=y then q.2 else layU y b ps:=by simp[layU]
def holdsU (y:Int) (b:ByteArray) (Ds:List (List Pu)):ByteArray:=Ds.foldl (fun b ps=>layU y b ps) b
theorem holdsU_snoc(y:Int)(b:ByteArray)(Ds:List (List Pu))(ps:List Pu):holdsU y b (Ds++[ps])=layU y (holdsU y b Ds) ps:=by simp[holdsU]
theorem rholds5_any{g:Nat}{sure:Int}{Ds:List (List Pu)}(h:Rs5 w g nb fr bl fv (.slice da Ds.length dc) sure ov off)(hF:StrR w fv Fs)(hD:DoneL w da Ds)(hnb:nb<=524288)(y:Nat)(F:ByteArray)(hy:Fs[y]?=some F)(hFl:Fs.length=nb)(k:Nat)(hk:k<=Ds.length)(hkb:k<=1073741823)(hpl:∀ps∈Ds,ps.length<=1073741823) :
  Calls Tryz.prog 58 #[.pointer (some ⟨g,0,none⟩),.int .i64 (y:Int),.int .i64 (k:Int)] w fun e w'=>e=.returned (.string (holdsU (y:Int) F (Ds.take k)))/\w'=w:=by
 obtain⟨fa,fc,rfl,hF⟩:=hF
 obtain⟨gf,rfl,_,hcf⟩:=hF y F hy
 have hyl:y<Fs.length:=(List.getElem?_eq_some_iff.1 hy).1
 have c3:=h.cell 3
 have c4:=h.cell 4
 simp at c3 c4
 obtain⟨nF,hnF⟩:∃nF,nF=Fs.length:=⟨_,rfl⟩
 obtain⟨nD,hnD⟩:∃nD,nD=Ds.length:=⟨_,rfl⟩
 rw[<- hnF]at c3 hyl
 rw[<- hnD]at c4 hk
 have HD:=hid hD
 have HP:=hid hpl
 have HN:=hid hnD
 have hyb:y<=524288:=by omega
 have hnFb:nF<=524288:=by omega
 clear h hD hpl hnD hnF hF hy hFl
 go_enter Tryz.func58,Tryz.ntmps58
 go_wp2_with fail
 go_loopw [7,8] (fun bv iv wr=>∃i:Nat,i<=k/\iv=.int .i64 (i:Int)/\bv=.string (holdsU (y:Int) F (Ds.take i))/\wr=w) (fun _ iv _=>k-(intOf iv).toNat)
 case atStart=>exact⟨0,Nat.zero_le _,rfl,rfl,rfl⟩
 case round=>
  obtain⟨i,hik,rfl,rfl,hwr⟩:=hrel
  rw[hwr]
  clear hwr
  by_cases hi:i<k
  ·have hi':(i:Int)<(k:Int):=by omega
   obtain⟨ps,hps⟩:∃ps,Ds[i]?=some ps:=⟨_,List.getElem?_eq_getElem (by have:=HN.out;omega)⟩
   obtain⟨gd,pa,pc,rfl,hci,hpp⟩:=HD.out i ps hps
   have hpb:=HP.out ps (List.mem_of_getElem? hps)
   have hiD:i<nD:=by omega
   obtain⟨np,hnp⟩:∃np,np=ps.length:=⟨_,rfl⟩
   rw[<- hnp]at hci hpb
   have HPs:=hid hpp
   have HNp:=hid hnp
   have HS:Hid (holdsU (y:Int) F (Ds.take (i+1))=layU (y:Int) (holdsU (y:Int) F (Ds.take i)) ps):=by
    rw[List.take_add_one,hps]
    exact holdsU_snoc _ _ _ _
   clear hpp hnp hps
   go_wp2_with fail
   go_loopw [7,9] (fun bv jv wq=>∃j:Nat,j<=np/\jv=.int .i64 (j:Int)/\bv=.string (layU (y:Int) (holdsU (y:Int) F (Ds.take i)) (ps.take j))/\wq=w) (fun _ jv _=>np-(intOf jv).toNat)
   case atStart=>exact⟨0,Nat.zero_le _,rfl,rfl,rfl⟩
   case round=>
    obtain⟨j,hjn,rfl,rfl,hwq⟩:=hrel
    rw[hwq]
    clear hwq
    by_cases hj:j<np
    ·have hj':(j:Int)<(np:Int):=by omega
     obtain⟨q,hq⟩:∃q,ps[j]?=some q:=⟨_,List.getElem?_eq_getElem (by have:=HNp.out;omega)⟩
     obtain⟨gp,rfl,hq1,hq2⟩:=HPs.out j q hq
     have HT:Hid (layU (y:Int) (holdsU (y:Int) F (Ds.take i)) (ps.take (j+1))=if q.1=(y:Int) then q.2 else layU (y:Int) (holdsU (y:Int) F (Ds.take i)) (ps.take j)):=by
      rw[List.take_add_one,hq]
      exact layU_snoc _ _ _ _
     clear hq
     by_cases he:q.1=(y:Int)
     ·have hb:(q.1 == (y:Int))=true:=by simp[he]
      have hT:=HT.out
      rw[if_pos he]at hT
      have HT2:=hid hT
      clear hT HT he
      go_wp2_with fail
      go_roundw
      case rel=>exact⟨j+1,by omega,by simp,by rw[HT2.out],trivial⟩
      case measure=>simp[intOf];omega
     ·have hb:(q.1 == (y:Int))=false:=by simp[he]
      have hT:=HT.out
      rw[if_neg he]at hT
      have HT2:=hid hT
      clear hT HT he
      go_wp2_with fail
      go_roundw
      case rel=>exact⟨j+1,by omega,by simp,by rw[HT2.out],trivial⟩
      case measure=>simp[intOf];omega
    ·have hj':¬(j:Int)<(np:Int):=by omega
     have hje:ps.take j=ps:=List.take_of_length_le (by have:=HNp.out;omega)
     have HJ:=hid hje
     clear hje
     go_wp2_with fail
     go_roundw
     case rel=>exact⟨i+1,by omega,by simp,by rw[HJ.out,HS.out],trivial⟩
     case measure=>simp[intOf];omega
  ·have hi':¬(i:Int)<(k:Int):=by omega
   obtain rfl:i=k:=by omega
   go_wp2
   go_ret
   exact⟨rfl,rfl⟩
end Go.Proofs.YthfojpcibnfmgaaGreat
