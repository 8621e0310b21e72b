import Derived.Test.YthfojpcibnfmgaaGreatV34
import Derived.ArgAppend
import Derived.Deep.AppendLies
import Derived.Test.YthfojpcibnfmgaaGreatV11
set_option maxRecDepth 100000
set_option maxHeartbeats 16000000
namespace Go.Proofs.YthfojpcibnfmgaaGreat
variable {w w':World}
variable {bl dc dn e fr k n nb pc rb:Nat}
variable {xs:List Value}
variable {P:Program}
variable {ops:Array Oper}
variable {da pa:Option Addr}
variable {dv fv mv ov:Value}
open Go.RowKit
def rowD (w:World) (e:TypeId) (v:Value) (n:Nat) (xs:List Value):Prop :=
 ∃v0,w.ownsRow 0 e 1 v0 n xs/\(v=v0\/∃g c,v0=.slice (some ⟨g,0,none⟩) n c/\v=.slice (some ⟨g,0,none⟩) n n)
theorem rowD.own{e:TypeId}{v:Value}(h:w.ownsRow 0 e 1 v n xs):rowD w e v n xs:=⟨v,h,.inl rfl⟩
theorem rowD.blk{e:TypeId}{v:Value}(h:rowD w e v n xs):∃v0,w.ownsRow 0 e 1 v0 n xs/\v0.ownBlock=v.ownBlock:=by
 obtain⟨v0,h1,rfl | ⟨g,c,rfl,rfl⟩⟩:=h
 ·exact⟨v,h1,rfl⟩
 ·exact⟨_,h1,rfl⟩
theorem rowD.keep{e:TypeId}{v:Value}(h:rowD w e v n xs)(hk:∀g,v.ownBlock=some g->w'.heap[g]?=w.heap[g]?):rowD w' e v n xs:=by
 obtain⟨v0,h1,rfl | ⟨g,c,rfl,rfl⟩⟩:=h
 ·exact⟨v,owns_keep h1 hk,.inl rfl⟩
 ·exact⟨_,owns_keep h1 hk,.inr ⟨g,c,rfl,rfl⟩⟩
theorem rowD.kind{v:Value}(h:rowD w e v n xs)(hk:v.ownBlock=some k):∃cur,w.heap[k]?=some (.cells cur e (0,0)):=by
 obtain⟨v0,h1,h2⟩:=h.blk
 exact rowKind h1 (h2.trans hk)
theorem rowD.lt{e:TypeId}{v:Value}(h:rowD w e v n xs):∀k,v.ownBlock=some k->0<=k/\k<w.heap.size:=fun k hk=>by
 obtain⟨v0,h1,h2⟩:=h.blk
 exact World.ownsRow.lt h1 k (h2.trans hk)
theorem rowD.below{e:TypeId}{v:Value}(h:rowD w e v n xs)(hb:Below w.heap.size w w'):rowD w' e v n xs:=h.keep (fun k hk=>hb.block k (h.lt k hk).2)
theorem rowD.slice{e:TypeId}{v:Value}(h:rowD w e v n xs):∃a c,v=.slice a n c/\n<=c/\(a=none->c=0):=by
 obtain⟨v0,h1,rfl | ⟨g,c,rfl,rfl⟩⟩:=h
 ·rcases h1.2 with ⟨q1,q2⟩ | ⟨g,cap,cur,q1,_,_,q2,_⟩
  ·exact⟨none,0,by rw[q1,q2],by omega,fun _=>rfl⟩
  ·exact⟨_,cap,q1,q2,fun q=>by cases q⟩
 ·exact⟨_,n,rfl,Nat.le_refl _,fun q=>by cases q⟩
theorem rowD.cellAt{e:TypeId}{g c:Nat}(h:rowD w e (.slice (some ⟨g,0,none⟩) n c) n xs)(j:Nat)(hj:j<n):w.cell? ⟨g,j,none⟩=xs[j]?:=by
 obtain⟨v0,h1,rfl | ⟨g',c',rfl,h2⟩⟩:=h
 ·exact World.ownsRow.cellAt h1 j (by omega)
 ·have:g=g':=by injection h2 with e1;injection e1 with e1;injection e1
  subst this
  exact World.ownsRow.cellAt h1 j (by omega)
theorem rowD.addr{e:TypeId}{v:Value}(h:rowD w e v n xs)(hn:0<n):∃g c,v=.slice (some ⟨g,0,none⟩) n c:=by
 obtain⟨v0,h1,rfl | ⟨g,c,rfl,rfl⟩⟩:=h
 ·obtain⟨g,c,e,_⟩:=World.ownsRow.form h1 hn
  exact⟨g,c,e⟩
 ·exact⟨g,n,rfl⟩
theorem run_append_rowD(w:World)(t ty:TypeId)(e:TypeId)(i:TypeInfo)(z:Value)(bytes:Nat)(ht:P.underlying t=some (.slice e))(hi:P.info? e=some i)(hz:i.zero=some z)(hsize:i.size=1)(hby:i.bytes=bytes)(hzs:z.cells.size=1)(v:Value)(n:Nat)(xs:List Value)(hown:rowD w e v n xs)(ad:Addr)(m c:Nat)(news:List Value)(hl:news.length=m * 1)(hnews:∀j u,news[j]?=some u->w.cell? (ad.add j)=some u)(h1:∀u∈news,u.oneCell'=true)(hm:0<m)(h63:n+m<=maxLen)(hbytes:(n+m) * bytes<=140737488355328)(H:Nat)(hH:w.heap.size=H) :
  ∃g cap w',(Builtin.append_ #[t,t] ty #[v,.slice (some ad) m c]).run P w=.ok (.slice (some ⟨g,0,none⟩) (n+m) cap) w'/\w'.ownsRow 0 e 1 (.slice (some ⟨g,0,none⟩) (n+m) cap) (n+m) (xs++news)/\w.grownBy w' v.ownBlock/\(v.ownBlock=some g\/g=H)/\g<w'.heap.size:=by
 obtain⟨v0,h0,rfl | ⟨g,c',rfl,rfl⟩⟩:=hown
 ·exact run_append_lies w t ty 0 e i z 1 bytes ht hi hz hsize hby hzs (by decide) v n xs h0 ad m c news hl hnews h1 hm h63 hbytes (Nat.zero_le _) H hH
 ·subst hby
  have hx:xs.length=n * 1:=h0.1
  have hsmall:n+m<=9223372036854775807:=by simp only[maxLen]at h63;omega
  have hlen:(xs++news).length=(n+m) * i.size:=by rw[List.length_append,hx,hl,hsize,Nat.add_mul]
  have hge:=grownCap_ge w (n+m) n e
  have hcm:grownCap w (n+m) n e<=maxLen:=grownCap_le_maxLen w (n+m) n e h63
  have hg:n<n+m:=by omega
  have hr:=run_append_grow (P:=P) w t ty e i z ht hi hz ⟨g,0,none⟩ n n xs (by rw[hsize];exact hx) (fun j u hj=>World.ownsRow.cells h0 rfl j u hj) ad m c news (by rw[hsize];exact hl) hnews hg (by omega) (growslice_fits hg hbytes)
  refine⟨w.heap.size,_,_,hr,⟨by rw[hlen,hsize],.inr ⟨w.heap.size,_,_,rfl,Nat.zero_le _,heap_alloc_new w.drew _,hge,hcm,?_,?_⟩⟩,⟨rfl,rfl,rfl,by simp,fun k hk _=>heap_alloc_old w.drew _ hk⟩,.inr hH,by simp⟩
  ·simp only[Array.size_append,List.size_toArray,size_zeroCells,hzs,hx,hl,<- Nat.add_mul]
   congr 1
   omega
  ·rw[hsize]at hlen
   simp only[Array.toList_append,List.append_assoc]
   rw[<- List.append_assoc,<- hlen]
   exact List.take_left
theorem wp_append_rowD (w:World) {o:Oper} {a:Act} {K:Act->World->Prop} {Q:Exit->Act->World->Prop} (s x:Operand) (t:TypeId) (ho:o.op=.call { callee:=.builtin .append,args:=#[s,x],argTypes:=#[t,t] }) (e:TypeId) (i:TypeInfo) (z:Value) (bytes:Nat) (ht:P.underlying t=some (.slice e)) (hi:P.info? e=some i) (hz:i.zero=some z) (hsize:i.size=1) (hby:i.bytes=bytes) (hzs:z.cells.size=1) (v:Value) (n:Nat) (xs:List Value) (hs:a.eval s=v) (hown:rowD w e v n xs) (ad:Addr) (m c:Nat) (news:List Value) (hx:a.eval x=.slice (some ad) m c) (hl:news.length=m * 1) (hnews:∀j u,news[j]?=some u->w.cell? (ad.add j)=some u) (h1:∀u∈news,u.oneCell'=true) (hm:0<m) (h63:n+m<=maxLen) (hbytes:(n+m) * bytes<=140737488355328) (H:Nat) (hH:w.heap.size=H)
  (h:∀g cap w',w'.ownsRow 0 e 1 (.slice (some ⟨g,0,none⟩) (n+m) cap) (n+m) (xs++news)->w.grownBy w' v.ownBlock->(v.ownBlock=some g\/g=H)->g<w'.heap.size->K (a.put o.dst (.slice (some ⟨g,0,none⟩) (n+m) cap)) w'):o.wp P a w K Q:=by
 obtain⟨g,cap,w',hr,h2,h3,h4,h5⟩:=run_append_rowD (P:=P) w t o.type e i z bytes ht hi hz hsize hby hzs v n xs hown ad m c news hl hnews h1 hm h63 hbytes H hH
 unfold Oper.wp execOp
 simp only[ho,resolve,invoke,builtin,Sem.run_bind,Sem.run_pure,Result.andThen_ok,List.map_toArray,List.map_cons,List.map_nil,hs,hx,hr]
 exact h g cap w' h2 h3 h4 h5
theorem step_append_rowD (w:World) {o:Oper} {a:Act} {K:Act->World->Prop} {Q:Exit->Act->World->Prop} {E:Prop} (hgd:o.guard=none) (s x:Operand) (t:TypeId) (ho:o.op=.call { callee:=.builtin .append,args:=#[s,x],argTypes:=#[t,t] }) (e:TypeId) (i:TypeInfo) (z:Value) (bytes:Nat) (ht:P.underlying t=some (.slice e)) (hi:P.info? e=some i) (hz:i.zero=some z) (hsize:i.size=1) (hby:i.bytes=bytes) (hzs:z.cells.size=1) (v:Value) (n:Nat) (xs:List Value) (hs:a.eval s=v) (hown:rowD w e v n xs) (ad:Addr) (m c:Nat) (news:List Value) (hx:a.eval x=.slice (some ad) m c) (hl:news.length=m * 1) (hnews:∀j u,news[j]?=some u->w.cell? (ad.add j)=some u) (h1:∀u∈news,u.oneCell'=true) (hm:0<m) (h63:n+m<=maxLen) (hbytes:(n+m) * bytes<=140737488355328) (H:Nat) (hH:w.heap.size=H)
  (h:∀g cap w',w'.ownsRow 0 e 1 (.slice (some ⟨g,0,none⟩) (n+m) cap) (n+m) (xs++news)->w.grownBy w' v.ownBlock->(v.ownBlock=some g\/g=H)->g<w'.heap.size->K (a.put o.dst (.slice (some ⟨g,0,none⟩) (n+m) cap)) w') :
  if Region.wanted o (yielded ops a.tmps)=true then Oper.wp P o a w K Q else E:=by
 have hw:Region.wanted o (yielded ops a.tmps)=true:=by simp[Region.wanted,hgd]
 rw[if_pos hw]
 exact wp_append_rowD w s x t ho e i z bytes ht hi hz hsize hby hzs v n xs hs hown ad m c news hx hl hnews h1 hm h63 hbytes H hH h
open Go.RowKit
theorem rcommit_large{g:Nat}{ps:List Pu}(h:Rt5 w g rb (.slice pa ps.length pc) mv false){sure:Int}(hs:Rs5 w rb nb fr bl fv dv sure ov false)(hP:PutsL w pa ps)(hpl:ps.length<=1073741823)(hpg:∀a,pa=some a->a.block≠g/\a.block≠rb)(hbl:16<=bl)(hbl2:bl<=524288)(hlg:bl / 2-4<cntU ps ps.length) :
  Calls Tryz.prog 81 #[.pointer (some ⟨g,0,none⟩)] w fun e w'=>e=.returned (.int .i64 44)/\Rt5 w' g rb (.slice pa ps.length pc) mv true/\Rs5 w' rb nb fr bl fv dv sure (.pointer none) false/\But (fun k=>k=rb\/k=g) w w':=by
 have HS:=hid (rstate_any h hs)
 have e0:stC false false=0:=rfl
 rw[e0]at HS
 have HE:=hid (rend_any hs h)
 have HB:Hid (∀w2,Rt5 w2 g rb (.slice pa ps.length pc) mv true->But (fun k=>k=rb\/k=g) w w2->Calls Tryz.prog 53 #[.pointer (some ⟨g,0,none⟩)] w2 fun e w'=>e=.returned (.int .i64 (cntU ps ps.length:Nat))/\Below w2.heap.size w2 w'):=fun w2 h2 b2=>rblocks_any h2 (hP.but b2 (fun x o n e q=>by
  obtain⟨n1,n2⟩:=hpg _ e
  rcases q with q | q
  ·exact n2 q
  ·exact n1 q)) hpl
 have hcl:=cntU_le ps ps.length
 have hq1:IntKind.i64.wrap ((bl:Int).tdiv 2)=((bl / 2:Nat):Int):=by
  have:(bl:Int).tdiv 2=((bl / 2:Nat):Int):=by rw[Int.tdiv_eq_ediv_of_nonneg (by omega)];omega
  rw[this,IntKind.wrap_i64]
  omega
 have hq2:(bl:Int).tdiv 2=((bl / 2:Nat):Int):=by rw[Int.tdiv_eq_ediv_of_nonneg (by omega)];omega
 clear e0 h hs hP
 obtain⟨cn,hcn⟩:∃cn,cn=cntU ps ps.length:=⟨_,rfl⟩
 rw[<- hcn]at HB hcl
 go_enter Tryz.func81,Tryz.ntmps81
 go_wp2_with fail
 refine Calls.mono HS.out ?_
 rintro e w9 ⟨rfl,hw9⟩
 rw[hw9]
 clear hw9 HS
 go_wp2_with fail
 refine Calls.mono HE.out ?_
 rintro e w2 ⟨rfl,h2,s2,b2⟩
 have HB2:=hid (HB.out w2 h2 b2)
 clear HB HE
 go_wp2_with fail
 refine Calls.mono HB2.out ?_
 rintro e w3 ⟨rfl,b3⟩
 have h3:=h2.keep (b3.block g h2.lt)
 have s3:=s2.keep (b3.block rb s2.lt)
 have b23:But (fun k=>k=rb\/k=g) w w3:=b2.trans (But.of_below b3)
 clear HB2 h2 s2 b2 b3
 have k0:=h3.cell 0
 have k1:=h3.cell 1
 have q2:=s3.cell 2
 have q4:=s3.cell 4
 simp at k0 k1 q2 q4
 have FIN:=hid (And.intro h3 (And.intro s3 b23))
 have hlt:((bl / 2:Nat):Int)-4<(cn:Int):=by omega
 clear h3 s3 b23 hlg hcn hq1
 go_wp2
 go_ret
 exact⟨rfl,FIN.out⟩
theorem rcommit_none{g:Nat}{ps:List Pu}(h:Rt5 w g rb (.slice pa ps.length pc) mv false){sure:Int}(hs:Rs5 w rb nb fr bl fv (.slice da dn dc) sure ov false)(hP:PutsL w pa ps)(hpl:ps.length<=1073741823)(hpg:∀a,pa=some a->a.block≠g/\a.block≠rb)(hbl:16<=bl)(hbl2:bl<=524288)(hz:cntU ps ps.length=0) :
  Calls Tryz.prog 81 #[.pointer (some ⟨g,0,none⟩)] w fun e w'=>e=.returned (.int .i64 0)/\Rt5 w' g rb (.slice pa ps.length pc) mv true/\Rs5 w' rb nb fr bl fv (.slice da dn dc) sure (.pointer none) false/\But (fun k=>k=rb\/k=g) w w':=by
 have HS:=hid (rstate_any h hs)
 have e0:stC false false=0:=rfl
 rw[e0]at HS
 have HE:=hid (rend_any hs h)
 have HB:Hid (∀w2,Rt5 w2 g rb (.slice pa ps.length pc) mv true->But (fun k=>k=rb\/k=g) w w2->Calls Tryz.prog 53 #[.pointer (some ⟨g,0,none⟩)] w2 fun e w'=>e=.returned (.int .i64 (cntU ps ps.length:Nat))/\Below w2.heap.size w2 w'):=fun w2 h2 b2=>rblocks_any h2 (hP.but b2 (fun x o n e q=>by
  obtain⟨n1,n2⟩:=hpg _ e
  rcases q with q | q
  ·exact n2 q
  ·exact n1 q)) hpl
 have hcl:=cntU_le ps ps.length
 have hq1:IntKind.i64.wrap ((bl:Int).tdiv 2)=((bl / 2:Nat):Int):=by
  have:(bl:Int).tdiv 2=((bl / 2:Nat):Int):=by rw[Int.tdiv_eq_ediv_of_nonneg (by omega)];omega
  rw[this,IntKind.wrap_i64]
  omega
 have hq2:(bl:Int).tdiv 2=((bl / 2:Nat):Int):=by rw[Int.tdiv_eq_ediv_of_nonneg (by omega)];omega
 clear e0 h hs hP
 obtain⟨cn,hcn⟩:∃cn,cn=cntU ps ps.length:=⟨_,rfl⟩
 rw[<- hcn]at HB hcl
 go_enter Tryz.func81,Tryz.ntmps81
 go_wp2_with fail
 refine Calls.mono HS.out ?_
 rintro e w9 ⟨rfl,hw9⟩
 rw[hw9]
 clear hw9 HS
 go_wp2_with fail
 refine Calls.mono HE.out ?_
 rintro e w2 ⟨rfl,h2,s2,b2⟩
 have HB2:=hid (HB.out w2 h2 b2)
 clear HB HE
 go_wp2_with fail
 refine Calls.mono HB2.out ?_
 rintro e w3 ⟨rfl,b3⟩
 have h3:=h2.keep (b3.block g h2.lt)
 have s3:=s2.keep (b3.block rb s2.lt)
 have b23:But (fun k=>k=rb\/k=g) w w3:=b2.trans (But.of_below b3)
 clear HB2 h2 s2 b2 b3
 have k0:=h3.cell 0
 have k1:=h3.cell 1
 have q2:=s3.cell 2
 have q4:=s3.cell 4
 simp at k0 k1 q2 q4
 have FIN:=hid (And.intro h3 (And.intro s3 b23))
 have hcz:cn=0:=hcn.trans hz
 subst hcz
 have hlt:¬((bl / 2:Nat):Int)-4<0:=by omega
 clear h3 s3 b23 hcn hq1 hz
 go_wp2
 go_ret
 exact⟨rfl,FIN.out⟩
theorem info60:(Tryz.prog.info? 60).map (fun i=>(i.zero,i.size,i.bytes))=some (some (.slice none 0 0),1,24):=by kernel_rfl
theorem rcommit_ok{g:Nat}{pg:Nat}{ps:List Pu}(h:Rt5 w g rb (.slice (some ⟨pg,0,none⟩) ps.length pc) mv false){sure:Int}(hs:Rs5 w rb nb fr bl fv dv sure ov false)(hpr:w.ownsRow 0 150 2 (.slice (some ⟨pg,0,none⟩) ps.length pc) ps.length (puCells ps))(hpl:ps.length<=1073741823)(hbl:16<=bl)(hbl2:bl<=524288)(hdr:rowD w 60 dv dn xs)(hdn:dn<=1073741823)(hlg:cntU ps ps.length<=bl / 2-4)(hpos:0<cntU ps ps.length) :
  Calls Tryz.prog 81 #[.pointer (some ⟨g,0,none⟩)] w fun e w'=>e=.returned (.int .i64 0)/\∃ga ca g6 cap6,Rt5 w' g rb (.slice (some ⟨pg,0,none⟩) ps.length pc) mv true/\Rs5 w' rb nb fr bl fv (.slice (some ⟨g6,0,none⟩) (dn+1) cap6) sure (.pointer none) false/\w'.ownsRow 0 60 1 (.slice (some ⟨g6,0,none⟩) (dn+1) cap6) (dn+1) (xs++[.slice (some ⟨ga,0,none⟩) ps.length ca])/\w'.ownsRow 0 150 2 (.slice (some ⟨ga,0,none⟩) ps.length ca) ps.length (puCells ps)/\w.heap.size<=ga/\(dv.ownBlock=some g6\/w.heap.size<=g6)/\But (fun k=>k=rb\/k=g\/dv.ownBlock=some k) w w':=by
 obtain⟨PO,hPO⟩:∃PO:Ending->World->Prop,PO=fun e w'=>e=.returned (.int .i64 0)/\∃ga ca g6 cap6,Rt5 w' g rb (.slice (some ⟨pg,0,none⟩) ps.length pc) mv true/\Rs5 w' rb nb fr bl fv (.slice (some ⟨g6,0,none⟩) (dn+1) cap6) sure (.pointer none) false/\w'.ownsRow 0 60 1 (.slice (some ⟨g6,0,none⟩) (dn+1) cap6) (dn+1) (xs++[.slice (some ⟨ga,0,none⟩) ps.length ca])/\w'.ownsRow 0 150 2 (.slice (some ⟨ga,0,none⟩) ps.length ca) ps.length (puCells ps)/\w.heap.size<=ga/\(dv.ownBlock=some g6\/w.heap.size<=g6)/\But (fun k=>k=rb\/k=g\/dv.ownBlock=some k) w w':=⟨_,rfl⟩
 rw[<- hPO]
 obtain⟨pcur,hpcur⟩:=rowKind hpr rfl
 have hpgg:pg≠g:=kind_ne hpcur h (by decide)
 have hpgr:pg≠rb:=kind_ne hpcur hs (by decide)
 have hgr:g≠rb:=h.ne hs
 have hdg:∀k,dv.ownBlock=some k->k≠g/\k≠rb/\k≠pg:=fun k e=>by
  obtain⟨cur,hcur⟩:=rowD.kind hdr e
  exact⟨kind_ne hcur h (by decide),kind_ne hcur hs (by decide),kind_ne hcur hpcur (by decide)⟩
 obtain⟨pa9,pc9,e9,hP⟩:=PutsL.of_row hpr rfl
 obtain⟨rfl,rfl⟩:pa9=some ⟨pg,0,none⟩/\pc=pc9:=by injection e9 with e1 e2 e3;exact⟨e1.symm,e3⟩
 clear e9
 have hpg:∀a,(some ⟨pg,0,none⟩:Option Addr)=some a->a.block≠g/\a.block≠rb:=fun a e=>by
  injection e with e
  subst e
  exact⟨hpgg,hpgr⟩
 obtain⟨pa,hpa⟩:∃pa:Option Addr,pa=some ⟨pg,0,none⟩:=⟨_,rfl⟩
 rw[<- hpa]at h hP hpg
 have HS:=hid (rstate_any h hs)
 have e0:stC false false=0:=rfl
 rw[e0]at HS
 have HE:=hid (rend_any hs h)
 have HB:Hid (∀w2,Rt5 w2 g rb (.slice pa ps.length pc) mv true->But (fun k=>k=rb\/k=g) w w2->Calls Tryz.prog 53 #[.pointer (some ⟨g,0,none⟩)] w2 fun e w'=>e=.returned (.int .i64 (cntU ps ps.length:Nat))/\Below w2.heap.size w2 w'):=fun w2 h2 b2=>rblocks_any h2 (hP.but b2 (fun x o n e q=>by
  obtain⟨n1,n2⟩:=hpg _ e
  rcases q with q | q
  ·exact n2 q
  ·exact n1 q)) hpl
 have hcl:=cntU_le ps ps.length
 have hq1:IntKind.i64.wrap ((bl:Int).tdiv 2)=((bl / 2:Nat):Int):=by
  have:(bl:Int).tdiv 2=((bl / 2:Nat):Int):=by rw[Int.tdiv_eq_ediv_of_nonneg (by omega)];omega
  rw[this,IntKind.wrap_i64]
  omega
 have hq2:(bl:Int).tdiv 2=((bl / 2:Nat):Int):=by rw[Int.tdiv_eq_ediv_of_nonneg (by omega)];omega
 have HROW:Hid (∀w3,But (fun k=>k=rb\/k=g) w w3->w3.ownsRow 0 150 2 (.slice (some ⟨pg,0,none⟩) ps.length pc) ps.length (puCells ps)/\rowD w3 60 dv dn xs):=fun w3 b=>by
  refine⟨owns_keep hpr (fun k e=>?_),rowD.keep hdr (fun k e=>?_)⟩
  ·have:pg=k:=by simpa [Value.ownBlock] using e
   subst this
   exact b.block pg (World.ownsRow.lt hpr pg rfl).2 (fun q=>q.elim hpgr hpgg)
  ·obtain⟨n1,n2,_⟩:=hdg k e
   exact b.block k (rowD.lt hdr k e).2 (fun q=>q.elim n2 n1)
 obtain⟨da,dc,hdv,_⟩:=rowD.slice hdr
 clear e0 h hs hP
 obtain⟨cn,hcn⟩:∃cn,cn=cntU ps ps.length:=⟨_,rfl⟩
 rw[<- hcn]at HB hcl
 go_enter Tryz.func81,Tryz.ntmps81
 go_wp2_with fail
 refine Calls.mono HS.out ?_
 rintro e w9 ⟨rfl,hw9⟩
 rw[hw9]
 clear hw9 HS
 go_wp2_with fail
 refine Calls.mono HE.out ?_
 rintro e w2 ⟨rfl,h2,s2,b2⟩
 have HB2:=hid (HB.out w2 h2 b2)
 clear HB HE
 go_wp2_with fail
 refine Calls.mono HB2.out ?_
 rintro e w3 ⟨rfl,b3⟩
 have h3:=h2.keep (b3.block g h2.lt)
 have s3:=s2.keep (b3.block rb s2.lt)
 have b23:But (fun k=>k=rb\/k=g) w w3:=b2.trans (But.of_below b3)
 clear HB2 h2 s2 b2 b3
 have k0:=h3.cell 0
 have k1:=h3.cell 1
 have q2:=s3.cell 2
 have q4:=s3.cell 4
 simp at k0 k1 q2 q4
 rw[hpa]at h3 k1
 obtain⟨hpr3,hdr3⟩:=HROW.out w3 b23
 obtain⟨np,hnp⟩:∃np,np=ps.length:=⟨_,rfl⟩
 have hppos:0<np:=by omega
 rw[<- hnp]at hpl hcl hpr3 k1 h3 hPO
 have hlt:¬((bl / 2:Nat):Int)-4<(cn:Int):=by omega
 have hgt:(0:Int)<(cn:Int):=by omega
 have hdl:decide ((1099511627776:Int)<=(dn:Int))=false:=decide_eq_false (by omega)
 have hdl2:((1099511627776:Int)<=(dn:Int))=False:=eq_false (by omega)
 obtain⟨i5,hi5,hz5,hs5,hb5⟩:=info_parts info150
 obtain⟨i6,hi6,hz6,hs6,hb6⟩:=info_parts info60
 have hxl:=h3.lt
 have hrl:=s3.lt
 have HSRC:Hid (∀j u,(puCells ps)[j]?=some u->w3.drew.cell? ((⟨pg,0,none⟩:Addr).add j)=some u):=fun j u hu=>World.ownsRow.cells hpr3 rfl j u hu
 have HONE:Hid (∀u∈puCells ps,u.oneCell'=true):=fun u hu=>by
  obtain⟨q,_,hq⟩:=List.mem_flatMap.1 hu
  simp at hq
  rcases hq with rfl | rfl <;> rfl
 have HLEN:Hid ((puCells ps).length=np * 2):=by
  show (puCells ps).length=np * 2
  rw[hnp]
  exact puCells_length ps
 have HN:Hid (∀w5 g4 cap4,w5.ownsRow 0 150 2 (.slice (some ⟨g4,0,none⟩) np cap4) np (puCells ps)->w3.drew.grownBy w5 none->g4=w3.heap.size->(w5.cell? ⟨g,0,none⟩=some (.pointer (some ⟨rb,0,none⟩))/\w5.cell? ⟨g,1,none⟩=some (.slice (some ⟨pg,0,none⟩) np pc))/\w5.cell? ⟨rb,4,none⟩=some dv/\((w5.alloc (.cells #[.slice (some ⟨g4,0,none⟩) np cap4] 60)).cell? ⟨g,0,none⟩=some (.pointer (some ⟨rb,0,none⟩))/\(w5.alloc (.cells #[.slice (some ⟨g4,0,none⟩) np cap4] 60)).cell? ⟨g,1,none⟩=some (.slice (some ⟨pg,0,none⟩) np pc))/\(w5.alloc (.cells #[.slice (some ⟨g4,0,none⟩) np cap4] 60)).cell? ⟨rb,4,none⟩=some dv/\rowD (w5.alloc (.cells #[.slice (some ⟨g4,0,none⟩) np cap4] 60)) 60 dv dn xs/\∀w6 g6 cap6,w6.ownsRow 0 60 1 (.slice (some ⟨g6,0,none⟩) (dn+1) cap6) (dn+1) (xs++[.slice (some ⟨g4,0,none⟩) np cap4])->(w5.alloc (.cells #[.slice (some ⟨g4,0,none⟩) np cap4] 60)).grownBy w6 dv.ownBlock->(dv.ownBlock=some g6\/g6=w5.heap.size+1)->(w6.cell? ⟨g,0,none⟩=some (.pointer (some ⟨rb,0,none⟩))/\w6.cell? ⟨g,1,none⟩=some (.slice (some ⟨pg,0,none⟩) np pc))/\w6.cell? ⟨rb,4,none⟩=some dv/\w6.frozen? ⟨rb,4,none⟩=false/\((w6.setCell ⟨rb,4,none⟩ (.slice (some ⟨g6,0,none⟩) (dn+1) cap6)).cell? ⟨g,0,none⟩=some (.pointer (some ⟨rb,0,none⟩))/\(w6.setCell ⟨rb,4,none⟩ (.slice (some ⟨g6,0,none⟩) (dn+1) cap6)).cell? ⟨g,1,none⟩=some (.slice (some ⟨pg,0,none⟩) np pc))/\PO (.returned (.int .i64 0)) (w6.setCell ⟨rb,4,none⟩ (.slice (some ⟨g6,0,none⟩) (dn+1) cap6))):=fun w5 g4 cap4 ho5 hg5 hg4=>by
  have b5:Below w3.heap.size w3 w5:=(Below.refl w3.heap.size w3).drew.grown hg5 (Nat.le_refl _) (fun k e=>by cases e)
  have z5:=b5.size
  have h5:=h3.keep (b5.block g hxl)
  have s5:=s3.keep (b5.block rb hrl)
  have bA:Below w5.heap.size w5 (w5.alloc (.cells #[.slice (some ⟨g4,0,none⟩) np cap4] 60)):=(Below.refl _ _).alloc (Nat.le_refl _) _
  have hA:=h5.keep (bA.block g h5.lt)
  have sA:=s5.keep (bA.block rb s5.lt)
  have m0:=h5.cell 0
  have m1:=h5.cell 1
  have m4:=s5.cell 4
  have a0:=hA.cell 0
  have a1:=hA.cell 1
  have a4:=sA.cell 4
  simp at m0 m1 m4 a0 a1 a4
  have hdrA:=rowD.below (rowD.below hdr3 b5) bA
  refine⟨⟨m0,m1⟩,m4,⟨a0,a1⟩,a4,hdrA,fun w6 g6 cap6 ho6 hg6 hl6=>?_⟩
  have zA:(w5.alloc (.cells #[.slice (some ⟨g4,0,none⟩) np cap4] 60)).heap.size=w5.heap.size+1:=by simp
  have bg:But (fun k=>dv.ownBlock=some k) (w5.alloc (.cells #[.slice (some ⟨g4,0,none⟩) np cap4] 60)) w6:=(But.refl _ _).of_grown hg6 (fun k e _=>e)
  have h6:=hA.keep (bg.block g hA.lt (fun e=>(hdg g e).1 rfl))
  have s6:=sA.keep (bg.block rb sA.lt (fun e=>(hdg rb e).2.1 rfl))
  have c0:=h6.cell 0
  have c1:=h6.cell 1
  have c4:=s6.cell 4
  simp at c0 c1 c4
  have s7:=s6.set4 (.slice (some ⟨g6,0,none⟩) (dn+1) cap6)
  have bs:But (fun k=>k=rb) w6 (w6.setCell ⟨rb,4,none⟩ (.slice (some ⟨g6,0,none⟩) (dn+1) cap6)):=(But.refl (fun k=>k=rb) w6).setCell (p:=⟨rb,4,none⟩) rfl _
  have h7:=h6.keep (bs.block g h6.lt hgr)
  have d0:=h7.cell 0
  have d1:=h7.cell 1
  simp at d0 d1
  have hg46:g4<w5.heap.size:=(World.ownsRow.lt ho5 g4 rfl).2
  have hg4d:¬dv.ownBlock=some g4:=fun e=>by
   have:=(rowD.lt hdr3 g4 e).2
   omega
  have e6:w6.heap[g4]?=w5.heap[g4]?:=(bg.block g4 (by omega) hg4d).trans (bA.block g4 hg46)
  have hg6n:g6≠rb:=by
   rcases hl6 with e | e
   ·exact (hdg g6 e).2.1
   ·have:=s5.lt
    omega
  refine⟨⟨c0,c1⟩,c4,s6.frozen 4,⟨d0,d1⟩,?_⟩
  rw[hPO]
  have z23:=b23.size
  refine⟨rfl,g4,cap4,g6,cap6,h7,s7,owns_keep ho6 (fun k e=>?_),owns_keep ho5 (fun k e=>?_),by omega,hl6.imp id (fun e=>by omega),?_⟩
  ·have:g6=k:=by simpa [Value.ownBlock] using e
   subst this
   exact bs.block g6 (World.ownsRow.lt ho6 g6 rfl).2 hg6n
  ·have:g4=k:=by simpa [Value.ownBlock] using e
   subst this
   exact (bs.block g4 (by have:=bg.size;omega) (by have:=s3.lt;omega)).trans e6
  ·have x1:But (fun k=>k=rb\/k=g\/dv.ownBlock=some k) w w5:=(b23.mono (fun k _ q=>q.elim .inl (fun r=>.inr (.inl r)))).trans (But.of_below b5)
   exact ((x1.trans (But.of_below bA)).trans (bg.mono (fun k _ q=>.inr (.inr q)))).trans (bs.mono (fun k _ q=>.inl q))
 have HF0:=HN
 have hdv':=hdv
 rw[hdv]at q4
 have q4d:w3.drew.cell? ⟨rb,4,none⟩=some (.slice da dn dc):=q4
 have HDV:=hid hdv'
 clear hnp hpa hdv hdv' HF0 h3 s3 b23 hpr3 hdr3 hPO HROW hdg hpg hpgg hpgr hgr hpcur hlg hpos hcn hq1 hdr hpr hs5 hs6
 obtain⟨i5,hi5,hz5,hs5,hb5⟩:=info_parts info150
 obtain⟨i6,hi6,hz6,hs6,hb6⟩:=info_parts info60
 go_upto_region 11 with fail
 go_cut [2] (fun s2 wx=>s2=.int .i64 0/\PO (.returned (.int .i64 0)) wx)
 case first=>
  refine wp_region_noPanic ?_
  refine Gz (S:=fun w'=>w'.cell? ⟨g,0,none⟩=some (.pointer (some ⟨rb,0,none⟩))/\w'.cell? ⟨g,1,none⟩=some (.slice (some ⟨pg,0,none⟩) np pc)) ⟨k0,k1⟩ (fun hSS=>?_)
  refine Ti 0 rfl ?_
  refine Ti 1 rfl ?_
  refine Ti 2 rfl ?_
  refine Ti 3 rfl ?_
  try simp only[Act.put,zA,zB,zC]
  refine Ti 4 rfl ?_
  refine Ti 5 rfl ?_
  refine Ti 6 rfl ?_
  refine Ti 7 rfl ?_
  try simp only[Act.put,zA,zB,zC]
  refine Ti 8 rfl ?_
  refine Ti 9 rfl ?_
  refine Ti 11 rfl ?_
  refine Ti 12 rfl ?_
  try simp only[Act.put,zA,zB,zC]
  refine Ti 13 rfl ?_
  refine Ti 14 rfl ?_
  try simp only[Act.put,zA,zB,zC]
  refine Rr 10 15 rfl rfl (fun K9 hK9=>?_) (fun K9 hK9=>?_)
  ·go_simp
   refine hK9.out _ _ hSS (fun hSS=>?_)
   try simp only[Act.put,zA,zB,zC]
   refine Ri 15 rfl (fun K9 hK9=>?_)
   refine step_append_lies _ (by rfl) _ _ _ (by rfl) 0 150 i5 (.agg #[.int .i64 0,.string ByteArray.empty]) 2 24 Tryz.underlying60 hi5 hz5 hs5 hb5 rfl (by decide) _ 0 [] (by rfl) (World.ownsRow_nil _ _ _ _) ⟨pg,0,none⟩ np pc (puCells ps) (by rfl) HLEN.out HSRC.out HONE.out hppos (by unfold maxLen;omega) (by omega) (by simp) w3.heap.size (by simp) ?_
   intro g4 cap4 w5 ho5 hg5 hlie5 _
   rw[Nat.zero_add]at ho5 ⊢
   have hg4:g4=w3.heap.size:=hlie5.elim (fun e=>by cases e) id
   obtain⟨y5,y5d,yA,yAd,yR,hF⟩:=HN.out w5 g4 cap4 ho5 hg5 hg4
   rw[HDV.out]at y5d yAd
   have HF:=hid hF
   have HYR:=hid yR
   clear ho5 hg5 hlie5 hF HN hg4 yR
   dsimp [Act.put]
   refine hK9.out _ _ y5 (fun hSS=>?_)
   try simp only[List.setIfInBounds_toArray,List.set_cons_zero,List.set_cons_succ]
   refine Ri 16 rfl (fun K9 hK9=>?_)
   go_simp
   refine hK9.out _ _ yA (fun hSS=>?_)
   try simp only[Act.put,zA,zB,zC]
   refine Ri 17 rfl (fun K9 hK9=>?_)
   refine step_append_rowD _ (by rfl) _ _ _ (by rfl) 60 i6 (.slice none 0 0) 24 Tryz.underlying63 hi6 hz6 hs6 hb6 rfl _ dn _ (by rfl) (by rw[<- HDV.out];exact HYR.out) ⟨w5.heap.size,0,none⟩ 1 1 [.slice (some ⟨g4,0,none⟩) np cap4] (by rfl) (by rfl) (by exact news1R w5 _ _) (by intro u hu;simp at hu;subst hu;rfl) (by decide) (by unfold maxLen;omega) (by omega) (w5.heap.size+1) (by simp) ?_
   intro g6 cap6 w6 ho6 hg6 hlie6 _
   rw[<- HDV.out]at hg6 hlie6
   obtain⟨z0,z4,zf,zS,hFF⟩:=HF.out w6 g6 cap6 ho6 hg6 hlie6
   rw[HDV.out]at z4
   have HFF:=hid hFF
   clear ho6 hg6 hlie6 hFF HF
   dsimp [Act.put]
   refine hK9.out _ _ z0 (fun hSS=>?_)
   try simp only[List.setIfInBounds_toArray,List.set_cons_zero,List.set_cons_succ]
   refine Ti 18 rfl ?_
   refine Ti 19 rfl ?_
   try simp only[Act.put,zA,zB,zC]
   refine Ri 20 rfl (fun K9 hK9=>?_)
   go_simp
   refine hK9.out _ _ zS (fun hSS=>?_)
   try simp only[Act.put,zA,zB,zC]
   refine Dn (NoPanic.normal ?_)
   clear hSS
   go_wp2_with fail
   go_meet
   exact⟨rfl,HFF.out⟩
  ·refine step_append_lies _ (by rfl) _ _ _ (by rfl) 0 150 i5 (.agg #[.int .i64 0,.string ByteArray.empty]) 2 24 Tryz.underlying60 hi5 hz5 hs5 hb5 rfl (by decide) _ 0 [] (by rfl) (World.ownsRow_nil _ _ _ _) ⟨pg,0,none⟩ np pc (puCells ps) (by rfl) HLEN.out HSRC.out HONE.out hppos (by unfold maxLen;omega) (by omega) (by simp) w3.heap.size (by simp) ?_
   intro g4 cap4 w5 ho5 hg5 hlie5 _
   rw[Nat.zero_add]at ho5 ⊢
   have hg4:g4=w3.heap.size:=hlie5.elim (fun e=>by cases e) id
   obtain⟨y5,y5d,yA,yAd,yR,hF⟩:=HN.out w5 g4 cap4 ho5 hg5 hg4
   rw[HDV.out]at y5d yAd
   have HF:=hid hF
   have HYR:=hid yR
   clear ho5 hg5 hlie5 hF HN hg4 yR
   dsimp [Act.put]
   refine hK9.out _ _ y5 (fun hSS=>?_)
   try simp only[List.setIfInBounds_toArray,List.set_cons_zero,List.set_cons_succ]
   refine Rr 10 16 rfl rfl (fun K9 hK9=>?_) (fun K9 hK9=>?_)
   ·go_simp
    refine hK9.out _ _ hSS (fun hSS=>?_)
    try simp only[Act.put,zA,zB,zC]
    refine Ri 16 rfl (fun K9 hK9=>?_)
    go_simp
    refine hK9.out _ _ yA (fun hSS=>?_)
    try simp only[Act.put,zA,zB,zC]
    refine Ri 17 rfl (fun K9 hK9=>?_)
    refine step_append_rowD _ (by rfl) _ _ _ (by rfl) 60 i6 (.slice none 0 0) 24 Tryz.underlying63 hi6 hz6 hs6 hb6 rfl _ dn _ (by rfl) (by rw[<- HDV.out];exact HYR.out) ⟨w5.heap.size,0,none⟩ 1 1 [.slice (some ⟨g4,0,none⟩) np cap4] (by rfl) (by rfl) (by exact news1R w5 _ _) (by intro u hu;simp at hu;subst hu;rfl) (by decide) (by unfold maxLen;omega) (by omega) (w5.heap.size+1) (by simp) ?_
    intro g6 cap6 w6 ho6 hg6 hlie6 _
    rw[<- HDV.out]at hg6 hlie6
    obtain⟨z0,z4,zf,zS,hFF⟩:=HF.out w6 g6 cap6 ho6 hg6 hlie6
    rw[HDV.out]at z4
    have HFF:=hid hFF
    clear ho6 hg6 hlie6 hFF HF
    dsimp [Act.put]
    refine hK9.out _ _ z0 (fun hSS=>?_)
    try simp only[List.setIfInBounds_toArray,List.set_cons_zero,List.set_cons_succ]
    refine Ti 18 rfl ?_
    refine Ti 19 rfl ?_
    try simp only[Act.put,zA,zB,zC]
    refine Ri 20 rfl (fun K9 hK9=>?_)
    go_simp
    refine hK9.out _ _ zS (fun hSS=>?_)
    try simp only[Act.put,zA,zB,zC]
    refine Dn (NoPanic.normal ?_)
    clear hSS
    go_wp2_with fail
    go_meet
    exact⟨rfl,HFF.out⟩
   ·go_simp
    refine hK9.out _ _ yA (fun hSS=>?_)
    try simp only[Act.put,zA,zB,zC]
    refine Ri 10 rfl (fun K9 hK9=>?_)
    go_simp
    refine hK9.out _ _ hSS (fun hSS=>?_)
    try simp only[Act.put,zA,zB,zC]
    refine Ri 17 rfl (fun K9 hK9=>?_)
    refine step_append_rowD _ (by rfl) _ _ _ (by rfl) 60 i6 (.slice none 0 0) 24 Tryz.underlying63 hi6 hz6 hs6 hb6 rfl _ dn _ (by rfl) (by rw[<- HDV.out];exact HYR.out) ⟨w5.heap.size,0,none⟩ 1 1 [.slice (some ⟨g4,0,none⟩) np cap4] (by rfl) (by rfl) (by exact news1R w5 _ _) (by intro u hu;simp at hu;subst hu;rfl) (by decide) (by unfold maxLen;omega) (by omega) (w5.heap.size+1) (by simp) ?_
    intro g6 cap6 w6 ho6 hg6 hlie6 _
    rw[<- HDV.out]at hg6 hlie6
    obtain⟨z0,z4,zf,zS,hFF⟩:=HF.out w6 g6 cap6 ho6 hg6 hlie6
    rw[HDV.out]at z4
    have HFF:=hid hFF
    clear ho6 hg6 hlie6 hFF HF
    dsimp [Act.put]
    refine hK9.out _ _ z0 (fun hSS=>?_)
    try simp only[List.setIfInBounds_toArray,List.set_cons_zero,List.set_cons_succ]
    refine Ti 18 rfl ?_
    try simp only[Act.put,zA,zB,zC]
    refine Ti 19 rfl ?_
    try simp only[Act.put,zA,zB,zC]
    refine Ri 20 rfl (fun K9 hK9=>?_)
    go_simp
    refine hK9.out _ _ zS (fun hSS=>?_)
    try simp only[Act.put,zA,zB,zC]
    refine Dn (NoPanic.normal ?_)
    clear hSS
    go_wp2_with fail
    go_meet
    exact⟨rfl,HFF.out⟩
 case rest=>
 rename World=>wq
 obtain⟨rfl,hF⟩:=hcut
 have FIN:=hid hF
 clear hF HN
 go_wp2_with fail
 exact FIN.out
end Go.Proofs.YthfojpcibnfmgaaGreat
