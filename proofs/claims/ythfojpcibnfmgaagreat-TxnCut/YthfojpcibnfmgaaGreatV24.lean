import Derived.Test.YthfojpcibnfmgaaGreatV23
set_option maxRecDepth 100000
set_option maxHeartbeats 16000000
namespace Go.Proofs.YthfojpcibnfmgaaGreat
variable {X Y Z:Nat->Prop}
variable {w w':World}
variable {a:Option Addr}
variable {K bl fr j n nb p q:Nat}
variable {zs:List Int}
variable {rs:List (Int×List Int)}
variable {d:Pd}
open Go.RowKit
structure Rm where
 T:Nat
 ad:Option Addr
 cap:Nat
 body:List Int
def Rm.val (r:Rm):Value:=.iface r.T (.slice r.ad r.body.length r.cap)
def Rm.out (r:Rm):Int×List Int:=(if r.T=207 then 3 else 4,r.body)
def pieceN (n:Nat):Nat:=(n-1) / 497
def recsZ (zs:List Int):List (Int×List Int):=((List.range (pieceN zs.length)).map fun i=>((3:Int),(zs.drop (497 * i)).take 497))++[(4,zs.drop (497 * pieceN zs.length))]
def pieceM (zs:List Int) (b cp i:Nat):Rm:=⟨207,some ⟨b,497 * i,none⟩,cp-497 * i,(zs.drop (497 * i)).take 497⟩
theorem info139:(Tryz.prog.info? 204).map (fun i=>(i.zero,i.size,i.bytes))=some (some .nilIface,1,16):=by kernel_rfl
theorem newsI1(w:World)(v:Value)(t:TypeId):∀j y,[v][j]?=some y->(w.alloc (.cells #[v] t)).cell? ((⟨w.heap.size,0,none⟩:Addr).add j)=some y:=by
 intro j y hj
 rcases j with _ | j
 ·cases hj
  rw[Addr.add_lit]
  exact cell_new rfl 0 _ rfl
 ·simp at hj
theorem recordsOf_any(X:Nat->Prop)(w:World)(a0:Option Addr)(cp:Nat)(ps:List Pm)(hR:RdP X w a0 ps)(hp:∀p∈ps,0<=p.at_/\p.at_<524288/\p.data.length=512/\Pl.isB p.data)(hl:ps.length<=524288) :
  Calls Tryz.prog 106 #[.slice a0 ps.length cp] w fun e w'=>∃(rv:Option Addr) (cR:Nat) (rs:List Rm),e=.returned (.slice rv rs.length cR)/\rs.map Rm.out=recsZ (bytesZ (ps.map Pm.put))/\w'.ownsRow w.heap.size 204 1 (.slice rv rs.length cR) rs.length (rs.map Rm.val)/\(∀r∈rs,(r.T=207\/r.T=208)/\r.body.length<=497/\RdN (fun k=>k<w.heap.size) w' r.ad r.body.length r.body)/\Below w.heap.size w w':=by
 obtain⟨i1,hi1,hz1,hs1,hb1⟩:=info_parts info139
 have HB:=hid (bytesOf_any X w a0 cp ps hR (fun p q=>⟨(hp p q).1,(hp p q).2.1,(hp p q).2.2.1⟩) hl)
 have hzl:(bytesZ (ps.map Pm.put)).length=515 * ps.length:=by
  rw[length_bytesZ,List.length_map]
  intro p q
  obtain⟨r,hr,rfl⟩:=List.mem_map.1 q
  exact (hp r hr).2.2.1
 have hzb:Pl.isB (bytesZ (ps.map Pm.put)):=isB_bytesZ (fun p q=>by
  obtain⟨r,hr,rfl⟩:=List.mem_map.1 q
  exact (hp r hr).2.2.2)
 generalize bytesZ (ps.map Pm.put)=zs at *
 clear hR hp
 have HZB:=hid hzb
 clear hzb
 generalize hN:ps.length=N at *
 go_enter Tryz.func106,Tryz.ntmps106
 go_wp2_with fail
 refine Calls.mono HB.out ?_
 rintro e w1 ⟨a,c,rfl,hrow,b1⟩
 obtain⟨n,hn⟩:∃n,n=515 * N:=⟨_,rfl⟩
 rw[<- hn]at hrow hzl
 rw[<- hn]
 obtain⟨hrd,hcap⟩:=rdn_of_owns (X:=fun k=>k<w.heap.size) hrow HZB.out (fun k hk q=>by omega)
 have hn9:n<=524288 * 515:=by omega
 have HRD:=hid hrd
 have HB1:=hid b1
 have R0:Hid ((w1.alloc (.cells #[] 204)).ownsRow w1.heap.size 204 1 (.slice (some ⟨w1.heap.size,0,none⟩) 0 0) 0 []):=World.ownsRow_lit w1 #[] 0 (Nat.le_refl _) (by decide) rfl
 have B0:Hid (Below w1.heap.size w1 (w1.alloc (.cells #[] 204))):=(Below.refl w1.heap.size w1).alloc (Nat.le_refl _) _
 have HFM:Hid (n=0\/∃g,a=some ⟨g,0,none⟩):=by
  rcases hrow.2 with ⟨_,q⟩ | ⟨g,cap,cur,q,_⟩
  ·exact .inl q
  ·simp at q;exact .inr ⟨g,q.1⟩
 clear hrow hrd b1 HB hn
 obtain⟨g,hg⟩:∃g,0<n->a=some ⟨g,0,none⟩:=by
  rcases HFM.out with q | ⟨g,q⟩
  ·exact⟨0,fun r=>by omega⟩
  ·exact⟨g,fun _=>q⟩
 have HG:=hid hg
 clear hg HFM
 go_wp2_with fail
 go_loopw [3,4] (fun dv rv wr=>∃(i:Nat) (av:Option Addr) (gR cR:Nat),497 * i<=n/\(0<n->497 * i<n)/\dv=.slice av (n-497 * i) (c-497 * i)/\(0<n->av=some ⟨g,497 * i,none⟩)/\rv=.slice (some ⟨gR,0,none⟩) i cR/\wr.ownsRow w1.heap.size 204 1 (.slice (some ⟨gR,0,none⟩) i cR) i (((List.range i).map (pieceM zs g c)).map Rm.val)/\Below w1.heap.size w1 wr) (fun dv _ _=>lenV dv)
 case atStart=>exact⟨0,a,_,_,by omega,fun q=>by omega,by simp,fun q=>by rw[HG.out q],rfl,R0.out,B0.out⟩
 case round=>
  clear R0 B0
  obtain⟨i,av,gR,cR,hi,hi2,rfl,hav,rfl,hrow,hbt⟩:=hrel
  obtain⟨r,hr⟩:∃r,r=n-497 * i:=⟨_,rfl⟩
  obtain⟨r',hr'⟩:∃r',r'=c-497 * i:=⟨_,rfl⟩
  rw[<- hr,<- hr']
  have hsw:=hbt.size
  have HQ:=hid (And.intro hr (And.intro hr' (And.intro hav hi2)))
  have hrr:r<=r':=by omega
  have hi7:i<=1073741823:=by omega
  clear hav hi2
  by_cases h4:497<r
  ·have hav2:=HQ.out.2.2.1 (by omega)
   subst hav2
   have HRow:=hid (owns_below hrow ((Below.refl wr.heap.size wr).alloc (Nat.le_refl _) (.cells #[.iface 207 (.slice (some ⟨g,497 * i,none⟩) 497 r')] 204)))
   have HBt:=hid hbt
   have x0:(497:Int)<(r:Int):=by omega
   have x1:(497:Int)<=(r:Int):=by omega
   have x2:(497:Int)<=(r':Int):=by omega
   have x3:(r:Int)<=(r':Int):=by omega
   have y1:¬r'=497:=by omega
   clear hrow hbt hr hr' hi
   go_wp2_with (at_builtin;refine wpList_append_lies _ rfl _ _ _ rfl w1.heap.size 204 i1 .nilIface 1 16 Tryz.underlying188 hi1 hz1 hs1 hb1 rfl (by decide) _ i _ rfl (by exact HRow.out) ⟨wr.heap.size,0,none⟩ 1 1 [.iface 207 (.slice (some ⟨g,497 * i,none⟩) 497 r')] rfl rfl (by exact newsI1 wr _ _) (by intro u hu;simp at hu;subst hu;rfl) (by decide) (by unfold maxLen;omega) (by omega) (by simp;omega) (wr.heap.size+1) (by simp) ?_;intro gR2 cR2 w3 ho3 hg3 hl3 _;have HO3:=hid ho3;have HG3:=hid hg3;clear ho3 hg3 hl3)
   obtain⟨hr,hr',_,_⟩:=HQ.out
   have hpl:((zs.drop (497 * i)).take 497).length=497:=by rw[List.length_take,List.length_drop];omega
   have hval:((List.range (i+1)).map (pieceM zs g c)).map Rm.val=((List.range i).map (pieceM zs g c)).map Rm.val++[.iface 207 (.slice (some ⟨g,497 * i,none⟩) 497 r')]:=by
    rw[List.range_succ,List.map_append,List.map_append]
    simp only[List.map_cons,List.map_nil,pieceM,Rm.val,hpl]
    rw[hr']
   refine⟨⟨i+1,some ⟨g,497 * i+497,none⟩,gR2,cR2,by omega,fun _=>by omega,by rw[show n-497 * (i+1)=r-497 by omega,show c-497 * (i+1)=r'-497 by omega],fun _=>by rw[show 497 * (i+1)=497 * i+497 by omega],rfl,by rw[hval];exact HO3.out,?_⟩,by simp[lenV];omega⟩
   exact ((((But.of_below HBt.out (X:=fun k=>w1.heap.size<=k)).alloc (.cells #[.iface 207 (.slice (some ⟨g,497 * i,none⟩) 497 r')] 204)).of_grown HG3.out (fun x e _=>(World.ownsRow.lt HRow.out x e).1)).below (Nat.le_refl _) (fun k hk q=>by omega))
  ·have hst:i=pieceN n:=by
    unfold pieceN
    have:=HQ.out.2.2.2
    by_cases q:n=0
    ·subst q;omega
    ·have:=this (by omega)
     omega
   have HRow:=hid (owns_below hrow ((Below.refl wr.heap.size wr).alloc (Nat.le_refl _) (.cells #[.iface 208 (.slice av r r')] 204)))
   have HBt:=hid hbt
   have x0:¬(497:Int)<(r:Int):=by omega
   have HST:=hid (And.intro hst (And.intro hi h4))
   clear hrow hbt hr hr' hi hst
   go_wp2_with (at_builtin;refine wpList_append_lies _ rfl _ _ _ rfl w1.heap.size 204 i1 .nilIface 1 16 Tryz.underlying188 hi1 hz1 hs1 hb1 rfl (by decide) _ i _ rfl (by exact HRow.out) ⟨wr.heap.size,0,none⟩ 1 1 [.iface 208 (.slice av r r')] rfl rfl (by exact newsI1 wr _ _) (by intro u hu;simp at hu;subst hu;rfl) (by decide) (by unfold maxLen;omega) (by omega) (by simp;omega) (wr.heap.size+1) (by simp) ?_;intro gR2 cR2 w3 ho3 hg3 hl3 _;have HO3:=hid ho3;have HG3:=hid hg3;clear ho3 hg3 hl3)
   go_ret
   obtain⟨hr,hr',hav,_⟩:=HQ.out
   obtain⟨hst,hi,_⟩:=HST.out
   have bw3:Below w1.heap.size w1 w3:=((((But.of_below HBt.out (X:=fun k=>w1.heap.size<=k)).alloc (.cells #[.iface 208 (.slice av r r')] 204)).of_grown HG3.out (fun x e _=>(World.ownsRow.lt HRow.out x e).1)).below (Nat.le_refl _) (fun k hk q=>by omega))
   have hdl:(zs.drop (497 * i)).length=r:=by rw[List.length_drop];omega
   have hrdn:∀o k,o+k<=n->0<n->RdN (fun k=>k<w.heap.size) w3 (some ⟨g,o,none⟩) k ((zs.drop o).take k):=fun o k hk hn0=>by
    have q:=HRD.out
    rw[HG.out hn0]at q
    have q2:=rdn_part q o k hk hn0
    rw[Nat.zero_add]at q2
    obtain⟨s1,s2,s3⟩:=q2
    refine⟨s1,s2,?_⟩
    rcases s3 with s3 | ⟨b,off,s4,s5,s6,s7⟩
    ·exact .inl s3
    ·exact .inr ⟨b,off,s4,Nat.lt_of_lt_of_le s5 bw3.size,s6,fun t ht=>(bw3.cell (p:=⟨b,off+t,none⟩) s5).trans (s7 t ht)⟩
   refine⟨some ⟨gR2,0,none⟩,cR2,(List.range i).map (pieceM zs g c)++[⟨208,av,r',zs.drop (497 * i)⟩],by simp,?_,?_,fun x hx=>?_,HB1.out.trans (bw3.mono HB1.out.size)⟩
   ·unfold recsZ
    rw[hzl,<- hst,List.map_append,List.map_map]
    rfl
   ·have hv:((List.range i).map (pieceM zs g c)++[(⟨208,av,r',zs.drop (497 * i)⟩:Rm)]).map Rm.val=((List.range i).map (pieceM zs g c)).map Rm.val++[.iface 208 (.slice av r r')]:=by
     rw[List.map_append]
     simp only[List.map_cons,List.map_nil,Rm.val,hdl]
    rw[hv,show ((List.range i).map (pieceM zs g c)++[(⟨208,av,r',zs.drop (497 * i)⟩:Rm)]).length=i+1 by simp]
    exact ownsRow_base_a HO3.out HB1.out.size
   ·rcases List.mem_append.1 hx with hx | hx
    ·obtain⟨t,ht,rfl⟩:=List.mem_map.1 hx
     rw[List.mem_range]at ht
     have hpl:((zs.drop (497 * t)).take 497).length=497:=by rw[List.length_take,List.length_drop];omega
     refine⟨.inl rfl,by show ((zs.drop (497 * t)).take 497).length<=497;omega,?_⟩
     show RdN _ _ (some ⟨g,497 * t,none⟩) ((zs.drop (497 * t)).take 497).length _
     rw[hpl]
     exact hrdn (497 * t) 497 (by omega) (by omega)
    ·simp at hx
     subst hx
     refine⟨.inr rfl,by show (zs.drop (497 * i)).length<=497;omega,?_⟩
     show RdN _ _ av (zs.drop (497 * i)).length (zs.drop (497 * i))
     rw[hdl]
     by_cases hn0:0<n
     ·rw[hav hn0]
      have:=hrdn (497 * i) r (by omega) hn0
      rwa [List.take_of_length_le (by omega)]at this
     ·exact⟨hdl,Pl.isB_drop HZB.out _,.inl (by omega)⟩
open Go.RowKit
def RdR (X:Nat->Prop) (w:World) (a:Option Addr) (rs:List Rm):Prop :=
 (∀r∈rs,RdN X w r.ad r.body.length r.body)/\(rs=[]\/∃b off,a=some ⟨b,off,none⟩/\b<w.heap.size/\¬X b/\∀(t:Nat) (r:Rm),rs[t]?=some r->w.cell? ⟨b,off+t,none⟩=some r.val)
theorem RdN.turn(h:RdN X w a n zs)(hb:But Y w w')(hy:∀k,k<w.heap.size->Y k->X k)(X':Nat->Prop)(hx:∀k,k<w.heap.size->X' k->X k):RdN X' w' a n zs:=by
 obtain⟨q1,q2,q3⟩:=h
 refine⟨q1,q2,?_⟩
 rcases q3 with q3 | ⟨b,off,q4,q5,q6,q7⟩
 ·exact .inl q3
 ·exact .inr ⟨b,off,q4,Nat.lt_of_lt_of_le q5 hb.size,fun q=>q6 (hx b q5 q),fun t ht=>(hb.cell (p:=⟨b,off+t,none⟩) q5 (fun q=>q6 (hy b q5 q))).trans (q7 t ht)⟩
theorem RdR.but{rs:List Rm}(h:RdR X w a rs)(hb:But Y w w')(hy:∀k,k<w.heap.size->Y k->X k)(X':Nat->Prop)(hx:∀k,k<w.heap.size->X' k->X k):RdR X' w' a rs:=by
 obtain⟨h1,h2⟩:=h
 refine⟨fun p hp=>(h1 p hp).turn hb hy X' hx,?_⟩
 rcases h2 with h2 | ⟨b,off,q4,q5,q6,q7⟩
 ·exact .inl h2
 ·exact .inr ⟨b,off,q4,Nat.lt_of_lt_of_le q5 hb.size,fun q=>q6 (hx b q5 q),fun t p hp=>(hb.cell (p:=⟨b,off+t,none⟩) q5 (fun q=>q6 (hy b q5 q))).trans (q7 t p hp)⟩
def recCmds (base life:Nat) (rs:List (Int×List Int)):List Cmd:=rs.mapIdx fun i r=>Cmd.wr (base+i) (stampZ r.1 (life:Int) r.2)
theorem recCmds_snoc(base life:Nat)(rs:List (Int×List Int))(r:Int×List Int):recCmds base life (rs++[r])=recCmds base life rs++[.wr (base+rs.length) (stampZ r.1 (life:Int) r.2)]:=by
 unfold recCmds
 rw[List.mapIdx_append]
 simp
theorem length_recCmds(base life:Nat)(rs:List (Int×List Int)):(recCmds base life rs).length=rs.length:=by simp[recCmds]
theorem recCmds_take{base life:Nat} :∃t,recCmds base life rs=recCmds base life (rs.take q)++t:=by
 refine⟨(rs.drop q).mapIdx fun i r=>Cmd.wr (base+(i+(rs.take q).length)) (stampZ r.1 (life:Int) r.2),?_⟩
 unfold recCmds
 conv=>lhs;rw[<- List.take_append_drop q rs]
 rw[List.mapIdx_append]
theorem stamped_rec{life:Nat}(hlf:life<=1099511627776)(r:Rm)(hT:r.T=207\/r.T=208)(hb:r.body.length<=497)(w:World)(hR:Rd w.heap.size w r.ad r.body.length r.body):Calls Tryz.prog 140 #[r.val,.int .i64 (life:Int)] w fun e w'=>∃g,e=.returned (.tuple #[.slice (some ⟨g,0,none⟩) 512 512,.int .i64 0])/\w.heap.size<=g/\Blk .u8 5 w' g (stampZ r.out.1 (life:Int) r.out.2)/\Below w.heap.size w w':=by
 obtain⟨T,ad,cp,body⟩:=r
 rcases hT with e | e
 ·simp only at e
  subst e
  exact stamped_piece ad body.length cp body hlf hb w hR
 ·simp only at e
  subst e
  exact stamped_last ad body.length cp body hlf hb w hR
def wlS (bl:Nat) (s:Js) (n:Nat):Js:=if bl-1<s.used+n then goS s else s
def wlCmds (nb fr bl:Nat) (s:Js) (rs:List (Int×List Int)):List Cmd:=(if bl-1<s.used+rs.length then settleCmds nb fr bl s else [])++recCmds (fr+1+(wlS bl s rs.length).used) (wlS bl s rs.length).life rs
def wlE (bl:Nat) (s:Js) (n:Nat):Js:=⟨(wlS bl s n).life,(wlS bl s n).seq,(wlS bl s n).used+n,(wlS bl s n).ah⟩
theorem goS_jn{s:Js}(h:Jn nb fr bl s):Jn nb fr bl (goS s)/\(goS s).used=0:=by
 unfold goS
 split
 ·rename_i q
  exact⟨⟨h.lo,h.fit,h.nb,by simp[beginS];omega,h.seq,by have:=h.lo;simp[beginS];omega⟩,rfl⟩
 ·exact⟨⟨h.lo,h.fit,h.nb,by show 1<=_;omega,h.seq,by have:=h.lo;show 0+1<=bl;omega⟩,rfl⟩
theorem writeLog_any{c room:Nat}{s:Js}(h:Jq Z w j c p room nb K fr bl d s)(hn:Jn nb fr bl s)(rv:Option Addr)(cR:Nat)(rs:List Rm)(hR:RdR Z w rv rs)(hrs:∀r∈rs,(r.T=207\/r.T=208)/\r.body.length<=497)(hN0:rs.length+1<=bl)(hl:d.puts.length+nb+bl+bl+16<=1073741823) :
  Calls Tryz.prog 105 #[.pointer (some ⟨j,0,none⟩),.slice rv rs.length cR] w (Did Z w j c p room nb K fr bl d (wlCmds nb fr bl s (rs.map Rm.out)) (wlE bl s rs.length)):=by
 obtain⟨cs2,hcs2⟩:∃cs2,cs2=wlCmds nb fr bl s (rs.map Rm.out):=⟨_,rfl⟩
 obtain⟨sE,hsE⟩:∃sE,sE=wlE bl s rs.length:=⟨_,rfl⟩
 rw[<- hcs2,<- hsE]
 unfold wlCmds at hcs2
 rw[List.length_map]at hcs2
 have hlo:=hn.lo
 have hfit:=hn.fit
 have hnb:=hn.nb
 have hus:=hn.used
 obtain⟨mv,hJ,hZj⟩:=h.cells
 have j1:=hJ.cell 1
 have j2:=hJ.cell 2
 have j5:=hJ.cell 5
 simp at j1 j2 j5
 have hjl:=hJ.lt
 have HA:=hid (jlogRoom_any (fr:Int) (bl:Int) (by omega) (by omega) w.drew)
 have HH:=hid (And.intro h (And.intro hn hR))
 have HRS:=hid hrs
 generalize hN:rs.length=N at *
 have hw0:IntKind.i64.wrap ((s.used:Int)+(N:Int))=(s.used:Int)+(N:Int):=by rw[IntKind.wrap_i64];omega
 have hbl1:((bl:Int)-1)=((bl-1:Nat):Int):=by omega
 rw[hbl1]at HA
 clear hJ h hn hR hrs hbl1
 by_cases hbig:bl-1<s.used+N
 ·have hx:((bl-1:Nat):Int)<(s.used:Int)+(N:Int):=by omega
  rw[if_pos hbig]at hcs2
  have hs1:wlS bl s N=goS s:=if_pos hbig
  rw[hs1]at hcs2
  have HSE:Hid (sE=⟨(goS s).life,(goS s).seq,(goS s).used+N,(goS s).ah⟩):=by rw[hsE];unfold wlE;rw[hs1];exact hid rfl
  have HCS:=hid hcs2
  clear hs1 hsE hcs2 hbig
  generalize bl-1=L at *
  go_enter Tryz.func105,Tryz.ntmps105
  go_wp2_with fail
  go_region_held3 (fun w'=>w'.cell? ⟨j,1,none⟩=some (.int .i64 (fr:Int))/\w'.cell? ⟨j,2,none⟩=some (.int .i64 (bl:Int))/\w'.cell? ⟨j,5,none⟩=some (.int .i64 (s.used:Int))) (first | (exact⟨by assumption,by assumption,by assumption⟩) | go_keep) (first
   | (go_at_call 130;refine Calls.mono HA.out ?_;rintro e w3 ⟨rfl,b3⟩;have B3:Hid (Below w.heap.size w w3):=⟨b3.os,b3.tape,b3.output,b3.size,b3.block⟩;have n1:=(B3.out.cell (p:=⟨j,1,none⟩) hjl).trans j1;have n2:=(B3.out.cell (p:=⟨j,2,none⟩) hjl).trans j2;have n5:=(B3.out.cell (p:=⟨j,5,none⟩) hjl).trans j5;clear b3))
  have HSt:=hid (settle_any (HH.out.1.cut.below B3.out) HH.out.2.1 (by omega))
  have hgj:=goS_jn HH.out.2.1
  have hscl:=d.runs_puts (settleCmds nb fr bl s)
  have hscl2:(settleCmds nb fr bl s).length<=nb+bl+7:=by
   have q1:=length_homeCmds nb s.ah
   have q2:=length_goCmds fr bl s
   unfold settleCmds
   simp only[List.length_append,List.length_cons,List.length_nil]
   omega
  have HGJ:=hid (And.intro hgj.2 (And.intro hscl hscl2))
  have HN1:=hid hgj.1
  clear hgj hscl hscl2
  generalize hcs1:settleCmds nb fr bl s=cs1 at *
  generalize hs1:goS s=s1 at *
  clear hcs1 hs1 HA n1 n2 n5 j1 j2 j5
  go_wp2_with fail
  refine Calls.mono HSt.out ?_
  intro e w4 hD
  have hD0:=hD.from (fun k _ r=>r.1) (But.of_below B3.out) (Z0:=Z)
  obtain⟨he,⟨Z4,s4,hJ4,hs4,hG4⟩,b4⟩:=hD
  subst he
  have hs3:=B3.out.size
  have hRR:RdR Z4 w4 rv rs:=(HH.out.2.2.but (But.of_below B3.out (X:=fun _=>False)) (fun k _ r=>r.elim) Z (fun k _ r=>r)).but b4 (fun k _ r=>r.1) Z4 (fun k hk r=>(hG4 k hk r).1)
  by_cases hc:(d.runs cs1).1=0
  ·rw[hs4 hc]at hJ4
   have H1:=hid (And.intro hc (And.intro (show ∃Zr,Jq Zr w4 j c p room nb K fr bl (d.runs cs1).2 s1/\Gr Z Zr w/\RdR Zr w4 rv rs from ⟨Z4,hJ4,fun k hk r=>(hG4 k (by omega) r).1,hRR⟩) hD0.2.2))
   have hpl1:=HGJ.out.2.1
   have hpl2:=HGJ.out.2.2
   have hus1:s1.used+N+1<=bl:=by have:=HGJ.out.1;omega
   rw[hc]
   clear hJ4 hs4 hG4 b4 hD0 hRR hc HSt HH hs3 B3 HGJ
   go_wp2_with fail
   go_loopw [29] (fun iv wr=>∃q:Nat,q<=N/\iv=.int .i64 (q:Int)/\(d.runs (cs1++recCmds (fr+1+s1.used) s1.life ((rs.map Rm.out).take q))).1=0/\(∃Zr,Jq Zr wr j c p room nb K fr bl (d.runs (cs1++recCmds (fr+1+s1.used) s1.life ((rs.map Rm.out).take q))).2 s1/\Gr Z Zr w/\RdR Zr wr rv rs)/\But Z w wr) (fun iv _=>N-(intOf iv).toNat)
   case atStart=>exact⟨0,Nat.zero_le _,rfl,by simpa [recCmds] using H1.out.1,by simpa [recCmds] using H1.out.2.1,H1.out.2.2⟩
   case round=>
    clear H1
    obtain⟨q,hq,rfl,hz,⟨Zr,hJr,hGr,hRr⟩,hBt⟩:=hrel
    by_cases hqn:q<N
    ·have hqn':(q:Int)<(N:Int):=by omega
     obtain⟨r,hrq⟩:∃r,rs[q]?=some r:=⟨_,List.getElem?_eq_getElem (by omega)⟩
     obtain⟨rT,rB⟩:=HRS.out r (List.mem_of_getElem? hrq)
     obtain⟨bk,off,rfl,hbk,hbZ,hcell⟩:∃b off,rv=some ⟨b,off,none⟩/\b<wr.heap.size/\¬Zr b/\∀(t:Nat) (r:Rm),rs[t]?=some r->wr.cell? ⟨b,off+t,none⟩=some r.val:=by
      rcases hRr.2 with e | e
      ·rw[e]at hrq;cases hrq
      ·exact e
     have c1:=hcell q r hrq
     have htk:(rs.map Rm.out).take (q+1)=(rs.map Rm.out).take q++[r.out]:=by
      rw[List.take_add_one,List.getElem?_map,hrq]
      rfl
     have hlt:((rs.map Rm.out).take q).length=q:=by rw[List.length_take,List.length_map];omega
     have hcm:cs1++recCmds (fr+1+s1.used) s1.life ((rs.map Rm.out).take (q+1))=(cs1++recCmds (fr+1+s1.used) s1.life ((rs.map Rm.out).take q))++[.wr (fr+1+s1.used+q) (stampZ r.out.1 (s1.life:Int) r.out.2)]:=by
      rw[htk,recCmds_snoc,hlt,List.append_assoc]
     have e7:=d.runs_snoc hz (.wr (fr+1+s1.used+q) (stampZ r.out.1 (s1.life:Int) r.out.2))
     rw[<- hcm]at e7
     have hpl:=d.runs_puts (cs1++recCmds (fr+1+s1.used) s1.life ((rs.map Rm.out).take q))
     rw[List.length_append,length_recCmds,hlt]at hpl
     have hko:0<=r.out.1/\r.out.1<256:=by unfold Rm.out;simp only;split <;> omega
     have hrdr:=hRr.1 r (List.mem_of_getElem? hrq)
     have HWr:Hid (∀w3,Below wr.heap.size wr w3->Calls Tryz.prog 131 #[.pointer (some ⟨j,0,none⟩),.int .i64 (((fr:Int)+1)+((s1.used:Int)+(q:Int))),r.val] w3 fun e w'=>e=.returned (.int .i64 (d.runs (cs1++recCmds (fr+1+s1.used) s1.life ((rs.map Rm.out).take (q+1)))).1)/\(∃Z',Jq Z' w' j c p room nb K fr bl (d.runs (cs1++recCmds (fr+1+s1.used) s1.life ((rs.map Rm.out).take (q+1)))).2 s1/\Gr (fun k=>Zr k/\k<wr.heap.size) Z' w3)/\But (fun k=>Zr k/\k<wr.heap.size) w3 w'):=fun w3 b3=>by
      have q9:=writeRecord_of (hJr.cut.below b3) (by omega) (fr+1+s1.used+q) (by omega) r.val (stampZ r.out.1 (s1.life:Int) r.out.2) (length_stampZ rB) (isB_stampZ hko hrdr.2.1) (stamped_rec HN1.out.life r rT rB w3 ((hrdr.rd.below b3).mono b3.size))
      rw[show (((fr+1+s1.used+q:Nat)):Int)=((fr:Int)+1)+((s1.used:Int)+(q:Int)) by omega]at q9
      rw[e7]
      exact q9
     obtain⟨mvr,hJbr,_⟩:=hJr.cells
     have j1:=hJbr.cell 1
     have j2:=hJbr.cell 2
     have j5:=hJbr.cell 5
     simp at j1 j2 j5
     have hjl:=hJbr.lt
     have hwq:IntKind.i64.wrap ((s1.used:Int)+(q:Int))=(s1.used:Int)+(q:Int):=by rw[IntKind.wrap_i64];omega
     have HLB:=hid (jlogBlock_any (fr:Int) (bl:Int) ((s1.used:Int)+(q:Int)) (by omega) (by omega) (by omega) (by omega) wr.drew)
     have KK:=hid (And.intro hGr (And.intro hBt hRr))
     obtain⟨tl,htl⟩:=recCmds_take (base:=fr+1+s1.used) (life:=s1.life) (rs:=rs.map Rm.out) (q:=q+1)
     have HTL:=hid htl
     clear hcell hrq rT rB hbZ htk hlt hcm e7 hpl hko hrdr hJr hGr hRr hBt hJbr hz htl
     go_wp2_with fail
     go_region_held3 (fun w'=>w'.cell? ⟨j,1,none⟩=some (.int .i64 (fr:Int))/\w'.cell? ⟨j,2,none⟩=some (.int .i64 (bl:Int))/\w'.cell? ⟨j,5,none⟩=some (.int .i64 (s1.used:Int))) (first | (exact⟨by assumption,by assumption,by assumption⟩) | go_keep) (first
      | (go_at_call 132;refine Calls.mono HLB.out ?_;rintro e w3 ⟨rfl,b3⟩;have B3:Hid (Below wr.heap.size wr w3):=⟨b3.os,b3.tape,b3.output,b3.size,b3.block⟩;have n1:=(B3.out.cell (p:=⟨j,1,none⟩) hjl).trans j1;have n2:=(B3.out.cell (p:=⟨j,2,none⟩) hjl).trans j2;have n5:=(B3.out.cell (p:=⟨j,5,none⟩) hjl).trans j5;clear b3)
      | (go_at_call 131;refine Calls.mono (HWr.out _ B3.out) ?_;rintro e w4 ⟨rfl,⟨Z4,hJ4,hG4⟩,b4⟩;obtain⟨mv4,hJb4,_⟩:=hJ4.cells;have q1:=hJb4.cell 1;have q2:=hJb4.cell 2;have q5:=hJb4.cell 5;simp at q1 q2 q5;have FIN0:=hid (And.intro hJ4 (And.intro hG4 b4));clear hJ4 hG4 b4 hJb4))
     obtain⟨hJ4,hG4,b4⟩:=FIN0.out
     obtain⟨hGr,hBt,hRr⟩:=KK.out
     have hs3:=B3.out.size
     have bb:But Zr wr w4:=(But.of_below B3.out).comp b4 (fun k _ r=>r.1)
     have gg:Gr Zr Z4 wr:=fun k hk r=>(hG4 k (by omega) r).1
     have FIN:=hid (And.intro hJ4 (And.intro (hGr.trans gg hBt.size) (And.intro (hRr.but bb (fun k _ r=>r) Z4 gg) (hBt.comp bb (fun k hk r=>hGr k hk r)))))
     clear hJ4 hG4 b4 hGr hBt hRr bb gg hs3 FIN0 KK B3 HWr HLB n1 n2 n5 q1 q2 q5 j1 j2 j5 c1
     generalize hcd:d.runs (cs1++recCmds (fr+1+s1.used) s1.life ((rs.map Rm.out).take (q+1)))=rr at *
     obtain⟨code,d'⟩:=rr
     by_cases hc:code=0
     ·subst hc
      go_wp2_with fail
      go_roundw
      case rel=>exact⟨q+1,by omega,by go_num,by rw[hcd],⟨Z4,by rw[hcd];exact FIN.out.1,FIN.out.2.1,FIN.out.2.2.1⟩,FIN.out.2.2.2⟩
      case measure=>simp[intOf];omega
     ·have hst:d.runs (cs1++recCmds (fr+1+s1.used) s1.life (rs.map Rm.out))=(code,d'):=by
       rw[HTL.out,<- List.append_assoc,Pd.runs_stop (by rw[hcd];exact hc),hcd]
      have FIN2:Hid (Did Z w j c p room nb K fr bl d cs2 sE (.returned (.int .i64 code)) w4):=by
       rw[HCS.out]
       unfold Did
       rw[hst]
       exact⟨rfl,⟨Z4,s1,FIN.out.1,fun r=>absurd r hc,FIN.out.2.1⟩,FIN.out.2.2.2⟩
      clear hst HTL FIN
      go_wp2
      go_ret
      exact FIN2.out
    ·have hqn':¬(q:Int)<(N:Int):=by omega
     have hqe:(rs.map Rm.out).take q=rs.map Rm.out:=List.take_of_length_le (by rw[List.length_map];omega)
     rw[hqe]at hz hJr
     obtain⟨Zc,m,n,D,a,hW⟩:=hJr
     have j5:=hW.jb.cell 5
     have f5:=hW.jb.frozen 5
     simp at j5
     have hwr:IntKind.i64.wrap ((s1.used:Int)+(N:Int))=(s1.used:Int)+(N:Int):=by rw[IntKind.wrap_i64];omega
     obtain⟨w5,hw5⟩:∃w5,w5=wr.setCell ⟨j,5,none⟩ (.int .i64 ((s1.used:Int)+(N:Int))):=⟨_,rfl⟩
     have J5:Jb w5 j c fr bl s1.life s1.seq ((s1.used:Int)+(N:Int)) (.map (some m)):=by rw[hw5];simpa [Jb] using hW.jb.set 5 (.int .i64 ((s1.used:Int)+(N:Int)))
     have bb:But (fun k=>k=j) wr w5:=by rw[hw5];exact (But.refl (fun y=>y=j) wr).setCell (p:=⟨j,5,none⟩) (show (fun y=>y=j) j from rfl) _
     have hzj:=hW.zj
     have FIN:Hid (Did Z w j c p room nb K fr bl d cs2 sE (.returned (.int .i64 0)) w5):=by
      rw[HCS.out]
      refine⟨by rw[hz],⟨Zr,sE,⟨Zc,m,n,D,a,?_⟩,fun _=>rfl,hGr⟩,hBt.comp bb (fun k hk e=>by rw[e];exact hGr j (by rw[<- e];exact hk) hzj)⟩
      rw[HSE.out]
      exact hW.rejb (s':=⟨s1.life,s1.seq,s1.used+N,s1.ah⟩) bb (by simpa using J5) rfl
     clear hW hGr hBt hRr J5 bb hzj hqe hz
     go_wp2
     go_ret
     rw[<- hw5]
     exact FIN.out
  ·have FIN:Hid (Did Z w j c p room nb K fr bl d cs2 sE (.returned (.int .i64 (d.runs cs1).1)) w4):=by
    rw[HCS.out]
    unfold Did
    rw[Pd.runs_stop hc]
    exact⟨rfl,⟨Z4,s4,hJ4,fun r=>absurd r hc,fun k hk r=>(hG4 k (by omega) r).1⟩,hD0.2.2⟩
   generalize (d.runs cs1).1=code at *
   clear hJ4 hs4 hG4 b4 hD0 hRR HSt HH
   go_wp2
   go_ret
   exact FIN.out
 ·have hx:¬((bl-1:Nat):Int)<(s.used:Int)+(N:Int):=by omega
  rw[if_neg hbig]at hcs2
  have hs1:wlS bl s N=s:=if_neg hbig
  rw[hs1]at hcs2
  have HSE:Hid (sE=⟨s.life,s.seq,s.used+N,s.ah⟩):=by rw[hsE];unfold wlE;rw[hs1];exact hid rfl
  have hus1:s.used+N+1<=bl:=by omega
  obtain⟨cs1,hcs1⟩:∃cs1:List Cmd,cs1=[]:=⟨_,rfl⟩
  rw[<- hcs1]at hcs2
  have hpl2:cs1.length<=nb+bl+7:=by rw[hcs1];exact Nat.zero_le _
  have HC1:=hid hcs1
  have HCS:=hid hcs2
  have HN1:=hid HH.out.2.1
  clear hs1 hsE hcs2 hbig hcs1
  generalize bl-1=L at *
  go_enter Tryz.func105,Tryz.ntmps105
  go_wp2_with fail
  go_region_held3 (fun w'=>w'.cell? ⟨j,1,none⟩=some (.int .i64 (fr:Int))/\w'.cell? ⟨j,2,none⟩=some (.int .i64 (bl:Int))/\w'.cell? ⟨j,5,none⟩=some (.int .i64 (s.used:Int))) (first | (exact⟨by assumption,by assumption,by assumption⟩) | go_keep) (first
   | (go_at_call 130;refine Calls.mono HA.out ?_;rintro e w3 ⟨rfl,b3⟩;have B3:Hid (Below w.heap.size w w3):=⟨b3.os,b3.tape,b3.output,b3.size,b3.block⟩;have n1:=(B3.out.cell (p:=⟨j,1,none⟩) hjl).trans j1;have n2:=(B3.out.cell (p:=⟨j,2,none⟩) hjl).trans j2;have n5:=(B3.out.cell (p:=⟨j,5,none⟩) hjl).trans j5;clear b3))
  have hs3:=B3.out.size
  have H1:Hid ((d.runs cs1).1=0/\(∃Zr,Jq Zr w3 j c p room nb K fr bl (d.runs cs1).2 s/\Gr Z Zr w/\RdR Zr w3 rv rs)/\But Z w w3):=by
   rw[HC1.out]
   exact⟨rfl,⟨_,HH.out.1.cut.below B3.out,fun k hk r=>r.1,HH.out.2.2.but (But.of_below B3.out (X:=fun _=>False)) (fun k _ r=>r.elim) _ (fun k _ r=>r.1)⟩,But.of_below B3.out⟩
  clear HH hs3 B3 HA n1 n2 n5 j1 j2 j5 HC1
  go_wp2_with fail
  go_loopw [29] (fun iv wr=>∃q:Nat,q<=N/\iv=.int .i64 (q:Int)/\(d.runs (cs1++recCmds (fr+1+s.used) s.life ((rs.map Rm.out).take q))).1=0/\(∃Zr,Jq Zr wr j c p room nb K fr bl (d.runs (cs1++recCmds (fr+1+s.used) s.life ((rs.map Rm.out).take q))).2 s/\Gr Z Zr w/\RdR Zr wr rv rs)/\But Z w wr) (fun iv _=>N-(intOf iv).toNat)
  case atStart=>exact⟨0,Nat.zero_le _,rfl,by simpa [recCmds] using H1.out.1,by simpa [recCmds] using H1.out.2.1,H1.out.2.2⟩
  case round=>
   clear H1
   obtain⟨q,hq,rfl,hz,⟨Zr,hJr,hGr,hRr⟩,hBt⟩:=hrel
   by_cases hqn:q<N
   ·have hqn':(q:Int)<(N:Int):=by omega
    obtain⟨r,hrq⟩:∃r,rs[q]?=some r:=⟨_,List.getElem?_eq_getElem (by omega)⟩
    obtain⟨rT,rB⟩:=HRS.out r (List.mem_of_getElem? hrq)
    obtain⟨bk,off,rfl,hbk,hbZ,hcell⟩:∃b off,rv=some ⟨b,off,none⟩/\b<wr.heap.size/\¬Zr b/\∀(t:Nat) (r:Rm),rs[t]?=some r->wr.cell? ⟨b,off+t,none⟩=some r.val:=by
     rcases hRr.2 with e | e
     ·rw[e]at hrq;cases hrq
     ·exact e
    have c1:=hcell q r hrq
    have htk:(rs.map Rm.out).take (q+1)=(rs.map Rm.out).take q++[r.out]:=by
     rw[List.take_add_one,List.getElem?_map,hrq]
     rfl
    have hlt:((rs.map Rm.out).take q).length=q:=by rw[List.length_take,List.length_map];omega
    have hcm:cs1++recCmds (fr+1+s.used) s.life ((rs.map Rm.out).take (q+1))=(cs1++recCmds (fr+1+s.used) s.life ((rs.map Rm.out).take q))++[.wr (fr+1+s.used+q) (stampZ r.out.1 (s.life:Int) r.out.2)]:=by
     rw[htk,recCmds_snoc,hlt,List.append_assoc]
    have e7:=d.runs_snoc hz (.wr (fr+1+s.used+q) (stampZ r.out.1 (s.life:Int) r.out.2))
    rw[<- hcm]at e7
    have hpl:=d.runs_puts (cs1++recCmds (fr+1+s.used) s.life ((rs.map Rm.out).take q))
    rw[List.length_append,length_recCmds,hlt]at hpl
    have hko:0<=r.out.1/\r.out.1<256:=by unfold Rm.out;simp only;split <;> omega
    have hrdr:=hRr.1 r (List.mem_of_getElem? hrq)
    have HWr:Hid (∀w3,Below wr.heap.size wr w3->Calls Tryz.prog 131 #[.pointer (some ⟨j,0,none⟩),.int .i64 (((fr:Int)+1)+((s.used:Int)+(q:Int))),r.val] w3 fun e w'=>e=.returned (.int .i64 (d.runs (cs1++recCmds (fr+1+s.used) s.life ((rs.map Rm.out).take (q+1)))).1)/\(∃Z',Jq Z' w' j c p room nb K fr bl (d.runs (cs1++recCmds (fr+1+s.used) s.life ((rs.map Rm.out).take (q+1)))).2 s/\Gr (fun k=>Zr k/\k<wr.heap.size) Z' w3)/\But (fun k=>Zr k/\k<wr.heap.size) w3 w'):=fun w3 b3=>by
     have q9:=writeRecord_of (hJr.cut.below b3) (by omega) (fr+1+s.used+q) (by omega) r.val (stampZ r.out.1 (s.life:Int) r.out.2) (length_stampZ rB) (isB_stampZ hko hrdr.2.1) (stamped_rec HN1.out.life r rT rB w3 ((hrdr.rd.below b3).mono b3.size))
     rw[show (((fr+1+s.used+q:Nat)):Int)=((fr:Int)+1)+((s.used:Int)+(q:Int)) by omega]at q9
     rw[e7]
     exact q9
    obtain⟨mvr,hJbr,_⟩:=hJr.cells
    have j1:=hJbr.cell 1
    have j2:=hJbr.cell 2
    have j5:=hJbr.cell 5
    simp at j1 j2 j5
    have hjl:=hJbr.lt
    have hwq:IntKind.i64.wrap ((s.used:Int)+(q:Int))=(s.used:Int)+(q:Int):=by rw[IntKind.wrap_i64];omega
    have HLB:=hid (jlogBlock_any (fr:Int) (bl:Int) ((s.used:Int)+(q:Int)) (by omega) (by omega) (by omega) (by omega) wr.drew)
    have KK:=hid (And.intro hGr (And.intro hBt hRr))
    obtain⟨tl,htl⟩:=recCmds_take (base:=fr+1+s.used) (life:=s.life) (rs:=rs.map Rm.out) (q:=q+1)
    have HTL:=hid htl
    clear hcell hrq rT rB hbZ htk hlt hcm e7 hpl hko hrdr hJr hGr hRr hBt hJbr hz htl
    go_wp2_with fail
    go_region_held3 (fun w'=>w'.cell? ⟨j,1,none⟩=some (.int .i64 (fr:Int))/\w'.cell? ⟨j,2,none⟩=some (.int .i64 (bl:Int))/\w'.cell? ⟨j,5,none⟩=some (.int .i64 (s.used:Int))) (first | (exact⟨by assumption,by assumption,by assumption⟩) | go_keep) (first
     | (go_at_call 132;refine Calls.mono HLB.out ?_;rintro e w3 ⟨rfl,b3⟩;have B3:Hid (Below wr.heap.size wr w3):=⟨b3.os,b3.tape,b3.output,b3.size,b3.block⟩;have n1:=(B3.out.cell (p:=⟨j,1,none⟩) hjl).trans j1;have n2:=(B3.out.cell (p:=⟨j,2,none⟩) hjl).trans j2;have n5:=(B3.out.cell (p:=⟨j,5,none⟩) hjl).trans j5;clear b3)
     | (go_at_call 131;refine Calls.mono (HWr.out _ B3.out) ?_;rintro e w4 ⟨rfl,⟨Z4,hJ4,hG4⟩,b4⟩;obtain⟨mv4,hJb4,_⟩:=hJ4.cells;have q1:=hJb4.cell 1;have q2:=hJb4.cell 2;have q5:=hJb4.cell 5;simp at q1 q2 q5;have FIN0:=hid (And.intro hJ4 (And.intro hG4 b4));clear hJ4 hG4 b4 hJb4))
    obtain⟨hJ4,hG4,b4⟩:=FIN0.out
    obtain⟨hGr,hBt,hRr⟩:=KK.out
    have hs3:=B3.out.size
    have bb:But Zr wr w4:=(But.of_below B3.out).comp b4 (fun k _ r=>r.1)
    have gg:Gr Zr Z4 wr:=fun k hk r=>(hG4 k (by omega) r).1
    have FIN:=hid (And.intro hJ4 (And.intro (hGr.trans gg hBt.size) (And.intro (hRr.but bb (fun k _ r=>r) Z4 gg) (hBt.comp bb (fun k hk r=>hGr k hk r)))))
    clear hJ4 hG4 b4 hGr hBt hRr bb gg hs3 FIN0 KK B3 HWr HLB n1 n2 n5 q1 q2 q5 j1 j2 j5 c1
    generalize hcd:d.runs (cs1++recCmds (fr+1+s.used) s.life ((rs.map Rm.out).take (q+1)))=rr at *
    obtain⟨code,d'⟩:=rr
    by_cases hc:code=0
    ·subst hc
     go_wp2_with fail
     go_roundw
     case rel=>exact⟨q+1,by omega,by go_num,by rw[hcd],⟨Z4,by rw[hcd];exact FIN.out.1,FIN.out.2.1,FIN.out.2.2.1⟩,FIN.out.2.2.2⟩
     case measure=>simp[intOf];omega
    ·have hst:d.runs (cs1++recCmds (fr+1+s.used) s.life (rs.map Rm.out))=(code,d'):=by
      rw[HTL.out,<- List.append_assoc,Pd.runs_stop (by rw[hcd];exact hc),hcd]
     have FIN2:Hid (Did Z w j c p room nb K fr bl d cs2 sE (.returned (.int .i64 code)) w4):=by
      rw[HCS.out]
      unfold Did
      rw[hst]
      exact⟨rfl,⟨Z4,s,FIN.out.1,fun r=>absurd r hc,FIN.out.2.1⟩,FIN.out.2.2.2⟩
     clear hst HTL FIN
     go_wp2
     go_ret
     exact FIN2.out
   ·have hqn':¬(q:Int)<(N:Int):=by omega
    have hqe:(rs.map Rm.out).take q=rs.map Rm.out:=List.take_of_length_le (by rw[List.length_map];omega)
    rw[hqe]at hz hJr
    obtain⟨Zc,m,n,D,a,hW⟩:=hJr
    have j5:=hW.jb.cell 5
    have f5:=hW.jb.frozen 5
    simp at j5
    have hwr:IntKind.i64.wrap ((s.used:Int)+(N:Int))=(s.used:Int)+(N:Int):=by rw[IntKind.wrap_i64];omega
    obtain⟨w5,hw5⟩:∃w5,w5=wr.setCell ⟨j,5,none⟩ (.int .i64 ((s.used:Int)+(N:Int))):=⟨_,rfl⟩
    have J5:Jb w5 j c fr bl s.life s.seq ((s.used:Int)+(N:Int)) (.map (some m)):=by rw[hw5];simpa [Jb] using hW.jb.set 5 (.int .i64 ((s.used:Int)+(N:Int)))
    have bb:But (fun k=>k=j) wr w5:=by rw[hw5];exact (But.refl (fun y=>y=j) wr).setCell (p:=⟨j,5,none⟩) (show (fun y=>y=j) j from rfl) _
    have hzj:=hW.zj
    have FIN:Hid (Did Z w j c p room nb K fr bl d cs2 sE (.returned (.int .i64 0)) w5):=by
     rw[HCS.out]
     refine⟨by rw[hz],⟨Zr,sE,⟨Zc,m,n,D,a,?_⟩,fun _=>rfl,hGr⟩,hBt.comp bb (fun k hk e=>by rw[e];exact hGr j (by rw[<- e];exact hk) hzj)⟩
     rw[HSE.out]
     exact hW.rejb (s':=⟨s.life,s.seq,s.used+N,s.ah⟩) bb (by simpa using J5) rfl
    clear hW hGr hBt hRr J5 bb hzj hqe hz
    go_wp2
    go_ret
    rw[<- hw5]
    exact FIN.out
end Go.Proofs.YthfojpcibnfmgaaGreat
