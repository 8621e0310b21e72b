import Derived.Test.YtlefjidbpjkhlaaGreatK17
set_option maxRecDepth 100000
set_option maxHeartbeats 16000000
namespace Go.Proofs.YtlefjidbpjkhlaaGreat
variable {w:World}
variable {B b c cp m n:Nat}
variable {a:Option Addr}
variable {zs:List Int}
open Go.RowKit
def bytesZ (ps:List (Nat×List Int)):List Int:=ps.flatMap fun p=>packZ [(3,(p.1:Int))]++p.2
theorem bytesZ_snoc(ps:List (Nat×List Int))(p:Nat×List Int):bytesZ (ps++[p])=bytesZ ps++packZ [(3,(p.1:Int))]++p.2:=by simp[bytesZ]
theorem isB_bytesZ{ps:List (Nat×List Int)}(h:∀p∈ps,Pl.isB p.2):Pl.isB (bytesZ ps):=by
 intro z hz
 obtain⟨p,hp,hz⟩:=List.mem_flatMap.1 hz
 rcases List.mem_append.1 hz with hz | hz
 ·exact isB_packZ _ z hz
 ·exact h p hp z hz
theorem length_bytesZ{ps:List (Nat×List Int)}(h:∀p∈ps,p.2.length=512):(bytesZ ps).length=515 * ps.length:=by
 induction ps with
 | nil=>rfl
 | cons p ps ih=>
  have e:bytesZ (p :: ps)=packZ [(3,(p.1:Int))]++p.2++bytesZ ps:=by simp[bytesZ]
  rw[e,List.length_append,List.length_append,ih (fun q hq=>h q (by simp[hq])),h p (by simp)]
  simp[packZ,Pl.dig]
  omega
theorem grow_rd(ty:TypeId)(ho:w.ownsRow B 5 1 (.slice a n c) n (zs.map (Value.int .u8))){off:Nat}{body:List Int}(hl:body.length=m)(hc:∀t,t<m->w.cell? ⟨b,off+t,none⟩=some (.int .u8 (body.getD t 0)))(hm:m<=1048576)(hn:n<=1073741823)(hw:B<=w.heap.size) :
  ∃a' c' w',(Builtin.append_ #[65,65] ty #[.slice a n c,.slice (some ⟨b,off,none⟩) m cp]).run Tryz.prog w=.ok (.slice a' (n+m) c') w'/\w'.ownsRow B 5 1 (.slice a' (n+m) c') (n+m) ((zs++body).map (Value.int .u8))/\But (fun k=>B<=k) w w'/\w.grownBy w' (Value.slice a n c).ownBlock:=by
 obtain⟨i0,hi,hz0,hz1,hz2⟩:=info_parts info5
 obtain⟨v',w',hr,h2,h3,_,_⟩:=run_append_own_at (P:=Tryz.prog) w B 65 ty 5 i0 (.int .u8 0) 1 1 Tryz.underlying65 hi hz0 hz1 hz2 rfl (by decide) (.slice a n c) n (zs.map (Value.int .u8)) ho ⟨b,off,none⟩ m cp (body.map (Value.int .u8)) (by simp[hl]) (fun j u hu=>by
   rw[Addr.add_lit]
   have hj:j<body.length:=by have:=(List.getElem?_eq_some_iff.1 hu).1;simpa using this
   rw[hc j (by omega)]
   simp[hj]at hu
   rw[<- hu]
   simp[hj]) (fun u hu=>by obtain⟨z,_,rfl⟩:=List.mem_map.1 hu;rfl) (by unfold maxLen;omega) (by omega) hw
 obtain⟨a',c',rfl,_⟩:=owns_slice h2
 refine⟨a',c',w',hr,by rw[List.map_append];exact h2,(But.refl _ w).of_grown h3 (fun x e hx=>?_),h3⟩
 exact (World.ownsRow.lt ho x e).1
theorem bytesOf_any(X:Nat->Prop)(w:World)(a0:Option Addr)(cp:Nat)(ps:List Pm)(hR:RdP X w a0 ps)(hp:∀p∈ps,0<=p.at_/\p.at_<524288/\p.data.length=512)(hl:ps.length<=524288) :
  Calls Tryz.prog 138 #[.slice a0 ps.length cp] w fun e w'=>∃a c,e=.returned (.slice a (515 * ps.length) c)/\w'.ownsRow w.heap.size 5 1 (.slice a (515 * ps.length) c) (515 * ps.length) ((bytesZ (ps.map Pm.put)).map (Value.int .u8))/\Below w.heap.size w w':=by
 obtain⟨i0,hi0,hz0,hz1,hz2⟩:=info_parts info5
 have HR:=hid hR
 have HP:=hid hp
 clear hR hp
 generalize hN:ps.length=N at *
 have hmul:IntKind.i64.wrap ((N:Int) * 515)=((515 * N:Nat):Int):=by rw[IntKind.wrap_i64];omega
 go_enter Tryz.func138,Tryz.ntmps138
 go_wp2_with (at_make;refine wpList_make_own _ rfl _ _ 65 rfl w.heap.size 5 i0 (.int .u8 0) 1 Tryz.underlying65 hi0 hz0 hz1 _ _ _ (515 * N) rfl rfl (by rfl) (by rw[hz2];omega) (by unfold maxLen;omega) (Nat.le_refl _) ?_;intro w1 hrow1 hgr1)
 have HB0:Hid (Below w.heap.size w w1):=((But.refl (fun _=>False) w).of_grown hgr1 (fun x e _=>by cases e)).below (Nat.le_refl _) (fun _ _ q=>q)
 have HR0:=hid hrow1
 clear hrow1 hgr1 hmul
 go_loopw [3,12] (fun dv iv wr=>∃(q:Nat) (a:Option Addr) (c:Nat),q<=N/\iv=.int .i64 (q:Int)/\dv=.slice a (515 * q) c/\wr.ownsRow w.heap.size 5 1 (.slice a (515 * q) c) (515 * q) ((bytesZ ((ps.take q).map Pm.put)).map (Value.int .u8))/\Below w.heap.size w wr) (fun _ iv _=>N-(intOf iv).toNat)
 case atStart=>exact⟨0,_,_,Nat.zero_le _,rfl,rfl,HR0.out,HB0.out⟩
 case round=>
  clear HR0 HB0
  obtain⟨q,a,c,hq,rfl,rfl,hrow,hbt⟩:=hrel
  by_cases hqn:q<N
  ·have hqn':(q:Int)<(N:Int):=by omega
   obtain⟨pp,hpq⟩:∃pp,ps[q]?=some pp:=⟨_,List.getElem?_eq_getElem (by omega)⟩
   obtain⟨p0,p1,p2⟩:=HP.out pp (List.mem_of_getElem? hpq)
   obtain⟨bk,off,ha0,hbk,hbZ,hcell⟩:∃b off,a0=some ⟨b,off,none⟩/\b<w.heap.size/\¬X b/\∀(t:Nat) (p:Pm),ps[t]?=some p->w.cell? ⟨b,off+t * 2,none⟩=some (.int .i64 p.at_)/\w.cell? ⟨b,off+t * 2+1,none⟩=some (.slice p.ad p.data.length p.cap):=by
    rcases HR.out.2 with e | e
    ·rw[e]at hpq;cases hpq
    ·exact e
   obtain⟨c1,c2⟩:=hcell q pp hpq
   obtain⟨b3,o3,had,hb3,hcs⟩:∃b o,pp.ad=some ⟨b,o,none⟩/\b<w.heap.size/\∀t,t<512->w.cell? ⟨b,o+t,none⟩=some (.int .u8 (pp.data.getD t 0)):=by
    rcases (HR.out.1 pp (List.mem_of_getElem? hpq)).2.2 with e | ⟨b,o,e,h1,_,h2⟩
    ·omega
    ·exact⟨b,o,e,h1,by rw[p2]at h2;exact h2⟩
   rw[had,p2]at c2
   replace c1:=(hbt.cell (p:=⟨bk,off+q * 2,none⟩) hbk).trans c1
   replace c2:=(hbt.cell (p:=⟨bk,off+q * 2+1,none⟩) hbk).trans c2
   obtain⟨x,hx⟩:∃x:Nat,pp.at_=(x:Int):=⟨pp.at_.toNat,by omega⟩
   rw[hx]at c1
   obtain⟨w2,hw2⟩:∃w2,w2=wr.alloc (.cells #[.int .i64 (x:Int),.slice (some ⟨b3,o3,none⟩) 512 pp.cap] 144):=⟨_,rfl⟩
   have b2:Below wr.heap.size wr w2:=by rw[hw2];exact (Below.refl _ _).alloc (Nat.le_refl _) _
   have z2:w2.heap.size=wr.heap.size+1:=by rw[hw2];simp
   have n0:w2.cell? ⟨wr.heap.size,0,none⟩=some (.int .i64 (x:Int)):=by rw[hw2];exact cell_new rfl 0 _ rfl
   have n1:w2.cell? ⟨wr.heap.size,1,none⟩=some (.slice (some ⟨b3,o3,none⟩) 512 pp.cap):=by rw[hw2];exact cell_new rfl 1 _ rfl
   have hsw:=hbt.size
   have hbw2:Below w.heap.size w w2:=hbt.trans (b2.mono hsw)
   have hrow2:=owns_below hrow b2
   obtain⟨w3,hw3⟩:∃w3,w3=w2.alloc (.cells #[.int .i64 3,.int .i64 (x:Int)] 204):=⟨_,rfl⟩
   have b3':Below w2.heap.size w2 w3:=by rw[hw3];exact (Below.refl _ _).alloc (Nat.le_refl _) _
   have z3:w3.heap.size=w2.heap.size+1:=by rw[hw3];simp
   have HPk:=hid (packed_any (some ⟨w2.heap.size,0,none⟩) 1 1 [(3,(x:Int))] w3 (by omega) ⟨rfl,fun f hf=>by simp at hf;subst hf;simp;omega,.inr ⟨w2.heap.size,0,rfl,by omega,fun t ht=>by
    rw[hw3]
    rcases t with _ | t
    ·exact⟨cell_new rfl 0 _ rfl,cell_new rfl 1 _ rfl⟩
    ·omega⟩⟩ (fun f hf=>by simp at hf;subst hf;unfold chk wfB;simp;omega))
   have KK:=hid (And.intro hrow2 (And.intro hbw2 (And.intro b3' (And.intro hcs (And.intro hpq (And.intro hx (And.intro p2 (And.intro hb3 z2))))))))
   have hlp:(packZ [((3:Int),(x:Int))]).length=3:=by simp[packZ,Pl.dig]
   rw[hlp,z2]at HPk
   have hgl:∀g,(Value.slice a (515 * q) c).ownBlock=some g->g<wr.heap.size:=fun g e=>(World.ownsRow.lt hrow g e).2
   have HGL:=hid hgl
   clear hgl
   subst ha0
   clear hcell hrow hbt hbZ had hcs hpq hx p0 p1 p2 b2 hbw2 hrow2 b3' hlp hsw hb3 z2 z3
   go_wp2_with fail
   rw[<- hw2,<- hw3]
   refine Calls.mono HPk.out ?_
   rintro e w4 ⟨g4,rfl,hg4,hb4,b4⟩
   obtain⟨hrow2,hbw2,b3',hcs,hpq,hx,p2,hb3,z2⟩:=KK.out
   have b24:Below w2.heap.size w2 w4:=b3'.trans (b4.mono b3'.size)
   have hrow4:=owns_below hrow2 b24
   have hs24:=b24.size
   have hsw2:=hbw2.size
   obtain⟨a5,c5,w5,hrun5,hrow5,b5,gr5⟩:=grow_rd (b:=g4) (off:=0) (m:=3) (cp:=3) 40 hrow4 (body:=packZ [(3,(x:Int))]) (by simp[packZ,Pl.dig]) (fun t ht=>by rw[Nat.zero_add];exact hb4.cell t (by simp[packZ,Pl.dig];omega)) (by omega) (by omega) (by omega)
   have m1:w5.cell? ⟨wr.heap.size,1,none⟩=some (.slice (some ⟨b3,o3,none⟩) 512 pp.cap):=(World.cell?_of_block (gr5.block wr.heap.size (by omega) (fun e=>by have:=HGL.out _ e.symm;omega))).trans ((b24.cell (p:=⟨wr.heap.size,1,none⟩) (by show wr.heap.size<_;omega)).trans n1)
   have bw5:Below w.heap.size w w5:=(((But.of_below hbw2 (X:=fun k=>w.heap.size<=k)).trans (But.of_below b24)).trans b5).below (Nat.le_refl _) (fun k hk r=>by omega)
   obtain⟨a6,c6,w6,hrun6,hrow6,b6,_⟩:=grow_rd (b:=b3) (off:=o3) (m:=512) (cp:=pp.cap) 40 hrow5 (body:=pp.data) p2 (fun t ht=>(bw5.cell (p:=⟨b3,o3+t,none⟩) hb3).trans (hcs t ht)) (by omega) (by omega) bw5.size
   have FIN:Hid (w6.ownsRow w.heap.size 5 1 (.slice a6 (515 * (q+1)) c6) (515 * (q+1)) ((bytesZ ((ps.take (q+1)).map Pm.put)).map (Value.int .u8))/\Below w.heap.size w w6):=by
    refine⟨?_,((But.of_below bw5 (X:=fun k=>w.heap.size<=k)).trans b6).below (Nat.le_refl _) (fun k hk r=>by omega)⟩
    rw[List.take_add_one,hpq,List.map_append]
    show w6.ownsRow _ _ _ _ _ ((bytesZ ((ps.take q).map Pm.put++[pp.put])).map _)
    rw[bytesZ_snoc,show (515 * (q+1))=515 * q+3+512 by omega]
    have:pp.put=(x,pp.data):=by unfold Pm.put;rw[hx];rfl
    rw[this]
    exact hrow6
   have e5:515 * q+3+512=515 * (q+1):=by omega
   rw[e5]at hrun6
   clear hrow2 hbw2 b3' hcs hpq hx p2 hb3 z2 b24 hrow4 hs24 hsw2 hrow5 b5 gr5 bw5 hrow6 b6 hg4 hb4 b4 KK HPk HGL hw2 hw3 n0 n1 c1 c2
   go_wp2_with (at_builtin;refine Lib.wpList_append_run _ rfl _ _ _ _ rfl _ _ rfl rfl _ _ (by first | exact hrun5 | exact hrun6) ?_)
   refine⟨⟨q+1,a6,c6,by omega,by go_num,rfl,FIN.out.1,FIN.out.2⟩,?_⟩
   simp[intOf]
   omega
  ·have hqn':¬(q:Int)<(N:Int):=by omega
   have hqe:ps.take q=ps:=List.take_of_length_le (by omega)
   have hqe2:q=N:=by omega
   subst hqe2
   rw[hqe]at hrow
   have FIN:=hid (And.intro hrow hbt)
   clear hrow hbt hqe
   go_wp2
   go_ret
   exact⟨a,c,rfl,FIN.out.1,FIN.out.2⟩
open Go.RowKit
structure Rm where
 T:Nat
 ad:Option Addr
 cap:Nat
 body:List Int
def Rm.val (r:Rm):Value:=.iface r.T (.slice r.ad r.body.length r.cap)
def Rm.out (r:Rm):Int×List Int:=(if r.T=197 then 3 else 4,r.body)
def pieceN (n:Nat):Nat:=(n-1) / 497
def recsZ (zs:List Int):List (Int×List Int):=((List.range (pieceN zs.length)).map fun i=>((3:Int),(zs.drop (497 * i)).take 497))++[(4,zs.drop (497 * pieceN zs.length))]
def pieceM (zs:List Int) (b cp i:Nat):Rm:=⟨197,some ⟨b,497 * i,none⟩,cp-497 * i,(zs.drop (497 * i)).take 497⟩
theorem info139:(Tryz.prog.info? 194).map (fun i=>(i.zero,i.size,i.bytes))=some (some .nilIface,1,16):=by kernel_rfl
theorem newsI1(w:World)(v:Value)(t:TypeId):∀j y,[v][j]?=some y->(w.alloc (.cells #[v] t)).cell? ((⟨w.heap.size,0,none⟩:Addr).add j)=some y:=by
 intro j y hj
 rcases j with _ | j
 ·cases hj
  rw[Addr.add_lit]
  exact cell_new rfl 0 _ rfl
 ·simp at hj
theorem recordsOf_any(X:Nat->Prop)(w:World)(a0:Option Addr)(cp:Nat)(ps:List Pm)(hR:RdP X w a0 ps)(hp:∀p∈ps,0<=p.at_/\p.at_<524288/\p.data.length=512/\Pl.isB p.data)(hl:ps.length<=524288) :
  Calls Tryz.prog 82 #[.slice a0 ps.length cp] w fun e w'=>∃(rv:Option Addr) (cR:Nat) (rs:List Rm),e=.returned (.slice rv rs.length cR)/\rs.map Rm.out=recsZ (bytesZ (ps.map Pm.put))/\w'.ownsRow w.heap.size 194 1 (.slice rv rs.length cR) rs.length (rs.map Rm.val)/\(∀r∈rs,(r.T=197\/r.T=198)/\r.body.length<=497/\RdN (fun k=>k<w.heap.size) w' r.ad r.body.length r.body)/\Below w.heap.size w w':=by
 obtain⟨i1,hi1,hz1,hs1,hb1⟩:=info_parts info139
 have HB:=hid (bytesOf_any X w a0 cp ps hR (fun p q=>⟨(hp p q).1,(hp p q).2.1,(hp p q).2.2.1⟩) hl)
 have hzl:(bytesZ (ps.map Pm.put)).length=515 * ps.length:=by
  rw[length_bytesZ,List.length_map]
  intro p q
  obtain⟨r,hr,rfl⟩:=List.mem_map.1 q
  exact (hp r hr).2.2.1
 have hzb:Pl.isB (bytesZ (ps.map Pm.put)):=isB_bytesZ (fun p q=>by
  obtain⟨r,hr,rfl⟩:=List.mem_map.1 q
  exact (hp r hr).2.2.2)
 generalize bytesZ (ps.map Pm.put)=zs at *
 clear hR hp
 have HZB:=hid hzb
 clear hzb
 generalize hN:ps.length=N at *
 go_enter Tryz.func82,Tryz.ntmps82
 go_wp2_with fail
 refine Calls.mono HB.out ?_
 rintro e w1 ⟨a,c,rfl,hrow,b1⟩
 obtain⟨n,hn⟩:∃n,n=515 * N:=⟨_,rfl⟩
 rw[<- hn]at hrow hzl
 rw[<- hn]
 obtain⟨hrd,hcap⟩:=rdn_of_owns (X:=fun k=>k<w.heap.size) hrow HZB.out (fun k hk q=>by omega)
 have hn9:n<=524288 * 515:=by omega
 have HRD:=hid hrd
 have HB1:=hid b1
 have R0:Hid ((w1.alloc (.cells #[] 194)).ownsRow w1.heap.size 194 1 (.slice (some ⟨w1.heap.size,0,none⟩) 0 0) 0 []):=World.ownsRow_lit w1 #[] 0 (Nat.le_refl _) (by decide) rfl
 have B0:Hid (Below w1.heap.size w1 (w1.alloc (.cells #[] 194))):=(Below.refl w1.heap.size w1).alloc (Nat.le_refl _) _
 have HFM:Hid (n=0\/∃g,a=some ⟨g,0,none⟩):=by
  rcases hrow.2 with ⟨_,q⟩ | ⟨g,cap,cur,q,_⟩
  ·exact .inl q
  ·simp at q;exact .inr ⟨g,q.1⟩
 clear hrow hrd b1 HB hn
 obtain⟨g,hg⟩:∃g,0<n->a=some ⟨g,0,none⟩:=by
  rcases HFM.out with q | ⟨g,q⟩
  ·exact⟨0,fun r=>by omega⟩
  ·exact⟨g,fun _=>q⟩
 have HG:=hid hg
 clear hg HFM
 go_wp2_with fail
 go_loopw [3,4] (fun dv rv wr=>∃(i:Nat) (av:Option Addr) (gR cR:Nat),497 * i<=n/\(0<n->497 * i<n)/\dv=.slice av (n-497 * i) (c-497 * i)/\(0<n->av=some ⟨g,497 * i,none⟩)/\rv=.slice (some ⟨gR,0,none⟩) i cR/\wr.ownsRow w1.heap.size 194 1 (.slice (some ⟨gR,0,none⟩) i cR) i (((List.range i).map (pieceM zs g c)).map Rm.val)/\Below w1.heap.size w1 wr) (fun dv _ _=>lenV dv)
 case atStart=>exact⟨0,a,_,_,by omega,fun q=>by omega,by simp,fun q=>by rw[HG.out q],rfl,R0.out,B0.out⟩
 case round=>
  clear R0 B0
  obtain⟨i,av,gR,cR,hi,hi2,rfl,hav,rfl,hrow,hbt⟩:=hrel
  obtain⟨r,hr⟩:∃r,r=n-497 * i:=⟨_,rfl⟩
  obtain⟨r',hr'⟩:∃r',r'=c-497 * i:=⟨_,rfl⟩
  rw[<- hr,<- hr']
  have hsw:=hbt.size
  have HQ:=hid (And.intro hr (And.intro hr' (And.intro hav hi2)))
  have hrr:r<=r':=by omega
  have hi7:i<=1073741823:=by omega
  clear hav hi2
  by_cases h4:497<r
  ·have hav2:=HQ.out.2.2.1 (by omega)
   subst hav2
   have HRow:=hid (owns_below hrow ((Below.refl wr.heap.size wr).alloc (Nat.le_refl _) (.cells #[.iface 197 (.slice (some ⟨g,497 * i,none⟩) 497 r')] 194)))
   have HBt:=hid hbt
   have x0:(497:Int)<(r:Int):=by omega
   have x1:(497:Int)<=(r:Int):=by omega
   have x2:(497:Int)<=(r':Int):=by omega
   have x3:(r:Int)<=(r':Int):=by omega
   have y1:¬r'=497:=by omega
   clear hrow hbt hr hr' hi
   go_wp2_with (at_builtin;refine wpList_append_lies _ rfl _ _ _ rfl w1.heap.size 194 i1 .nilIface 1 16 Tryz.underlying153 hi1 hz1 hs1 hb1 rfl (by decide) _ i _ rfl (by exact HRow.out) ⟨wr.heap.size,0,none⟩ 1 1 [.iface 197 (.slice (some ⟨g,497 * i,none⟩) 497 r')] rfl rfl (by exact newsI1 wr _ _) (by intro u hu;simp at hu;subst hu;rfl) (by decide) (by unfold maxLen;omega) (by omega) (by simp;omega) (wr.heap.size+1) (by simp) ?_;intro gR2 cR2 w3 ho3 hg3 hl3 _;have HO3:=hid ho3;have HG3:=hid hg3;clear ho3 hg3 hl3)
   obtain⟨hr,hr',_,_⟩:=HQ.out
   have hpl:((zs.drop (497 * i)).take 497).length=497:=by rw[List.length_take,List.length_drop];omega
   have hval:((List.range (i+1)).map (pieceM zs g c)).map Rm.val=((List.range i).map (pieceM zs g c)).map Rm.val++[.iface 197 (.slice (some ⟨g,497 * i,none⟩) 497 r')]:=by
    rw[List.range_succ,List.map_append,List.map_append]
    simp only[List.map_cons,List.map_nil,pieceM,Rm.val,hpl]
    rw[hr']
   refine⟨⟨i+1,some ⟨g,497 * i+497,none⟩,gR2,cR2,by omega,fun _=>by omega,by rw[show n-497 * (i+1)=r-497 by omega,show c-497 * (i+1)=r'-497 by omega],fun _=>by rw[show 497 * (i+1)=497 * i+497 by omega],rfl,by rw[hval];exact HO3.out,?_⟩,by simp[lenV];omega⟩
   exact ((((But.of_below HBt.out (X:=fun k=>w1.heap.size<=k)).alloc (.cells #[.iface 197 (.slice (some ⟨g,497 * i,none⟩) 497 r')] 194)).of_grown HG3.out (fun x e _=>(World.ownsRow.lt HRow.out x e).1)).below (Nat.le_refl _) (fun k hk q=>by omega))
  ·have hst:i=pieceN n:=by
    unfold pieceN
    have:=HQ.out.2.2.2
    by_cases q:n=0
    ·subst q;omega
    ·have:=this (by omega)
     omega
   have HRow:=hid (owns_below hrow ((Below.refl wr.heap.size wr).alloc (Nat.le_refl _) (.cells #[.iface 198 (.slice av r r')] 194)))
   have HBt:=hid hbt
   have x0:¬(497:Int)<(r:Int):=by omega
   have HST:=hid (And.intro hst (And.intro hi h4))
   clear hrow hbt hr hr' hi hst
   go_wp2_with (at_builtin;refine wpList_append_lies _ rfl _ _ _ rfl w1.heap.size 194 i1 .nilIface 1 16 Tryz.underlying153 hi1 hz1 hs1 hb1 rfl (by decide) _ i _ rfl (by exact HRow.out) ⟨wr.heap.size,0,none⟩ 1 1 [.iface 198 (.slice av r r')] rfl rfl (by exact newsI1 wr _ _) (by intro u hu;simp at hu;subst hu;rfl) (by decide) (by unfold maxLen;omega) (by omega) (by simp;omega) (wr.heap.size+1) (by simp) ?_;intro gR2 cR2 w3 ho3 hg3 hl3 _;have HO3:=hid ho3;have HG3:=hid hg3;clear ho3 hg3 hl3)
   go_ret
   obtain⟨hr,hr',hav,_⟩:=HQ.out
   obtain⟨hst,hi,_⟩:=HST.out
   have bw3:Below w1.heap.size w1 w3:=((((But.of_below HBt.out (X:=fun k=>w1.heap.size<=k)).alloc (.cells #[.iface 198 (.slice av r r')] 194)).of_grown HG3.out (fun x e _=>(World.ownsRow.lt HRow.out x e).1)).below (Nat.le_refl _) (fun k hk q=>by omega))
   have hdl:(zs.drop (497 * i)).length=r:=by rw[List.length_drop];omega
   have hrdn:∀o k,o+k<=n->0<n->RdN (fun k=>k<w.heap.size) w3 (some ⟨g,o,none⟩) k ((zs.drop o).take k):=fun o k hk hn0=>by
    have q:=HRD.out
    rw[HG.out hn0]at q
    have q2:=rdn_part q o k hk hn0
    rw[Nat.zero_add]at q2
    obtain⟨s1,s2,s3⟩:=q2
    refine⟨s1,s2,?_⟩
    rcases s3 with s3 | ⟨b,off,s4,s5,s6,s7⟩
    ·exact .inl s3
    ·exact .inr ⟨b,off,s4,Nat.lt_of_lt_of_le s5 bw3.size,s6,fun t ht=>(bw3.cell (p:=⟨b,off+t,none⟩) s5).trans (s7 t ht)⟩
   refine⟨some ⟨gR2,0,none⟩,cR2,(List.range i).map (pieceM zs g c)++[⟨198,av,r',zs.drop (497 * i)⟩],by simp,?_,?_,fun x hx=>?_,HB1.out.trans (bw3.mono HB1.out.size)⟩
   ·unfold recsZ
    rw[hzl,<- hst,List.map_append,List.map_map]
    rfl
   ·have hv:((List.range i).map (pieceM zs g c)++[(⟨198,av,r',zs.drop (497 * i)⟩:Rm)]).map Rm.val=((List.range i).map (pieceM zs g c)).map Rm.val++[.iface 198 (.slice av r r')]:=by
     rw[List.map_append]
     simp only[List.map_cons,List.map_nil,Rm.val,hdl]
    rw[hv,show ((List.range i).map (pieceM zs g c)++[(⟨198,av,r',zs.drop (497 * i)⟩:Rm)]).length=i+1 by simp]
    exact ownsRow_base_a HO3.out HB1.out.size
   ·rcases List.mem_append.1 hx with hx | hx
    ·obtain⟨t,ht,rfl⟩:=List.mem_map.1 hx
     rw[List.mem_range]at ht
     have hpl:((zs.drop (497 * t)).take 497).length=497:=by rw[List.length_take,List.length_drop];omega
     refine⟨.inl rfl,by show ((zs.drop (497 * t)).take 497).length<=497;omega,?_⟩
     show RdN _ _ (some ⟨g,497 * t,none⟩) ((zs.drop (497 * t)).take 497).length _
     rw[hpl]
     exact hrdn (497 * t) 497 (by omega) (by omega)
    ·simp at hx
     subst hx
     refine⟨.inr rfl,by show (zs.drop (497 * i)).length<=497;omega,?_⟩
     show RdN _ _ av (zs.drop (497 * i)).length (zs.drop (497 * i))
     rw[hdl]
     by_cases hn0:0<n
     ·rw[hav hn0]
      have:=hrdn (497 * i) r (by omega) hn0
      rwa [List.take_of_length_le (by omega)]at this
     ·exact⟨hdl,Pl.isB_drop HZB.out _,.inl (by omega)⟩
end Go.Proofs.YtlefjidbpjkhlaaGreat
