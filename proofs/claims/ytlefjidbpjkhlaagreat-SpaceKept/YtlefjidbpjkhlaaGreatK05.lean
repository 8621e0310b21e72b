import Derived.Test.YtlefjidbpjkhlaaGreatK04
import Derived.Test.YtlefjidbpjkhlaaGreatK02
set_option maxRecDepth 100000
set_option maxHeartbeats 16000000
namespace Go.Proofs.YtlefjidbpjkhlaaGreat
variable {X Y:Nat->Prop}
variable {w w' w1 w2:World}
variable {c e mp n p r x:Nat}
variable {fu hi mi:Int}
variable {img zs:List Int}
variable {off:Bool}
variable {es:List Nat}
variable {f':Nat->En}
open Go.RowKit Go.ChangeMaps
structure CD (X Y:Nat->Prop) (w:World) (c p room:Nat) (hi mi:Int) (l:List (Int×List Int)) (img:List Int) (puts:List (Nat×List Int)) (fu:Int) (off:Bool) (nb:Nat):Prop where
 ca:Cst Y w c p room hi mi l
 dk:Dk X w p img puts fu off nb
 dj:∀k,Y k->¬X k
def Grown (X Y X' Y':Nat->Prop) (w:World):Prop:=∀k,k<w.heap.size->(X' k->X k)/\(Y' k->Y k)
theorem wf_small{x:Int}(h0:0<=x)(h1:x<524288):(Lit.int .i64 x).wf=true:=WalkArith.wf_i64 (by omega)
theorem CD.held{room:Nat}{l:List (Int×List Int)}{img':List Int}{puts puts':List (Nat×List Int)}{fu':Int}{off':Bool}{nb:Nat}(h:CD X Y w c p room hi mi l img puts fu off nb)(d1:Dk (fun k=>X k\/w.heap.size<=k) w1 p img' puts' fu' off' nb)(b1:But X w w1)(b2:Below w1.heap.size w1 w2){g cap:Nat}(hg:w1.heap.size<=g)(o2:Own w2 g 512 cap zs)(hb:Pl.isB zs){x:Int}(hwf:(Lit.int .i64 x).wf=true) :
  Calls Tryz.prog 218 #[.pointer (some ⟨c,0,none⟩),.int .i64 x,.slice (some ⟨g,0,none⟩) 512 cap] w2 fun q w'=>q=.returned (.tuple #[])/\(∃X' Y',CD X' Y' w' c p room hi mi (holdL room l x zs) img' puts' fu' off' nb/\Grown X Y X' Y' w)/\But (fun k=>X k\/Y k) w w'/\Own w' g 512 cap zs:=by
 have s1:=b1.size
 have s2:=b2.size
 have ca1:Cst (fun k=>Y k/\k<w.heap.size) w1 c p room hi mi l:=h.ca.cut.but b1 (fun k q=>h.dj k q.1)
 have ca2:Cst (fun k=>(Y k/\k<w.heap.size)\/k=g) w2 c p room hi mi l:=(ca1.keep (fun k q _=>b2.block k (by omega))).mono (fun k _ q=>.inl q)
 refine Calls.mono (hold_any ca2 o2 hb (.inr rfl) hwf) ?_
 rintro q w3 ⟨rfl,ca3,b3,ow⟩
 have s3:=b3.size
 have d3:Dk (fun k=>(X k\/w.heap.size<=k)/\k<w1.heap.size) w3 p img' puts' fu' off' nb:=(d1.cut.below b2).but b3 (fun k q=>by
  rintro (⟨q1,q2⟩ | q1)
  ·rcases q.1 with q3 | q3
   ·exact h.dj k q1 q3
   ·omega
  ·omega)
 refine⟨rfl,⟨_,_,⟨ca3,d3,fun k q=>?_⟩,fun k hk=>⟨fun q=>?_,fun q=>?_⟩⟩,?_,ow⟩
 ·rintro ⟨q3,q4⟩
  rcases q with (⟨q1,q2⟩ | q1) | q1
  ·rcases q3 with q3 | q3
   ·exact h.dj k q1 q3
   ·omega
  ·omega
  ·omega
 ·rcases q.1 with q3 | q3
  ·exact q3
  ·omega
 ·rcases q with (⟨q1,q2⟩ | q1) | q1
  ·exact q1
  ·omega
  ·omega
 ·exact (b1.mono (fun k _ q=>.inl q)).comp ((But.of_below b2 (X:=fun k=>(Y k/\k<w.heap.size)\/k=g)).trans b3) (fun k hk q=>by
   rcases q with ⟨q1,q2⟩ | q1
   ·exact .inr q1
   ·omega)
theorem CWrite_ok{room:Nat}{l:List (Int×List Int)}{puts:List (Nat×List Int)}{nb:Nat}(h:CD X Y w c p room hi mi l img puts fu off nb)(hl:puts.length<=1073741823)(x:Int)(ad:Option Addr)(n cp:Nat)(zs:List Int)(hR:RdN X w ad n zs)(hz:writeC off fu nb x n=0) :
  Calls Tryz.prog 178 #[.pointer (some ⟨c,0,none⟩),.int .i64 x,.slice ad n cp] w fun e w'=>e=.returned (.int .i64 0)/\(∃X' Y',CD X' Y' w' c p room hi mi (holdL room l x zs) img (puts++[(x.toNat,zs)]) (burnF fu) (burnO fu off) nb/\Grown X Y X' Y' w)/\But (fun k=>X k\/Y k) w w':=by
 obtain⟨hof,hx0,hx1,hn,hbc⟩:off=false/\0<=x/\x<nb/\n=512/\burnC fu=0:=by
  unfold writeC at hz
  split at hz
  ·omega
  ·split at hz
   ·omega
   ·split at hz
    ·omega
    ·exact⟨by simpa using ‹¬off=true›,by omega,by omega,by omega,hz⟩
 have hF:writeF off fu nb x n=burnF fu:=by unfold writeF;rw[if_pos ⟨hof,by omega,hn⟩]
 have hO:writeO off fu nb x n=burnO fu off:=by unfold writeO;rw[if_pos ⟨hof,by omega,hn⟩]
 subst hn
 obtain⟨b,o,rfl,hbl,hbX,hbc⟩:∃b o,ad=some ⟨b,o,none⟩/\b<w.heap.size/\¬X b/\∀t,t<512->w.cell? ⟨b,o+t,none⟩=some (.int .u8 (zs.getD t 0)):=by
  rcases hR.2.2 with q | q
  ·omega
  ·exact q
 have hnb:=h.dk.facts.2.2.2
 have hwf:=wf_small (x:=x) hx0 (by omega)
 obtain⟨v2,v3,hg,hYc,_⟩:=h.ca.cg
 have c0:w.cell? ⟨c,0,none⟩=some (.pointer (some ⟨p,0,none⟩)):=hg.cell 0
 have hcl:=hg.lt
 have HW:=hid (Write_any h.dk hl x (some ⟨b,o,none⟩) 512 cp zs hR)
 rw[hz,hF,hO,if_pos rfl]at HW
 have HH:=hid (And.intro h hR)
 clear h hR hg
 go_enter Tryz.func178,Tryz.ntmps178
 go_wp2_with fail
 refine Calls.mono HW.out ?_
 rintro q w1 ⟨rfl,d1,b1⟩
 have R1:Rd w1.heap.size w1 (some ⟨b,o,none⟩) 512 zs:=⟨HH.out.2.1,HH.out.2.2.1,.inr ⟨b,o,rfl,Nat.lt_of_lt_of_le hbl b1.size,fun t ht=>(b1.cell (p:=⟨b,o+t,none⟩) hbl hbX).trans (hbc t ht)⟩⟩
 have HC:=hid (Clone_any ⟨b,o,none⟩ 512 cp zs w1 (by omega) R1)
 have K1:=hid (And.intro d1 b1)
 clear d1 b1 R1 HW
 go_wp2_with fail
 refine Calls.mono HC.out ?_
 rintro q w2 ⟨g,cap,rfl,g2,o2,b2⟩
 have HD:=hid (HH.out.1.held K1.out.1 K1.out.2 b2 g2 o2 HH.out.2.2.1 hwf)
 clear o2 b2 HC
 go_wp2_with fail
 refine Calls.mono HD.out ?_
 rintro q w3 ⟨rfl,h3,b3,_⟩
 have FIN:=hid (And.intro h3 b3)
 clear h3 b3 HD HH K1
 go_wp2
 go_ret
 exact⟨rfl,FIN.out.1,FIN.out.2⟩
theorem CWrite_bad{room:Nat}{l:List (Int×List Int)}{puts:List (Nat×List Int)}{nb:Nat}(h:CD X Y w c p room hi mi l img puts fu off nb)(hl:puts.length<=1073741823)(x:Int)(ad:Option Addr)(n cp:Nat)(zs:List Int)(hR:RdN X w ad n zs)(hz:writeC off fu nb x n≠0) :
  Calls Tryz.prog 178 #[.pointer (some ⟨c,0,none⟩),.int .i64 x,.slice ad n cp] w fun e w'=>e=.returned (.int .i64 (writeC off fu nb x n))/\(∃X' Y',CD X' Y' w' c p room hi mi l img puts (writeF off fu nb x n) (writeO off fu nb x n) nb/\Grown X Y X' Y' w)/\But (fun k=>X k\/Y k) w w':=by
 obtain⟨v2,v3,hg,hYc,_⟩:=h.ca.cg
 have c0:w.cell? ⟨c,0,none⟩=some (.pointer (some ⟨p,0,none⟩)):=hg.cell 0
 have HW:=hid (Write_any h.dk hl x ad n cp zs hR)
 rw[if_neg hz]at HW
 have HH:=hid h
 clear h hR hg
 generalize writeC off fu nb x n=cd at *
 generalize writeF off fu nb x n=fu' at *
 generalize writeO off fu nb x n=off' at *
 go_enter Tryz.func178,Tryz.ntmps178
 go_wp2_with fail
 refine Calls.mono HW.out ?_
 rintro q w1 ⟨rfl,d1,b1⟩
 have FIN:Hid ((∃X' Y',CD X' Y' w1 c p room hi mi l img puts fu' off' nb/\Grown X Y X' Y' w)/\But (fun k=>X k\/Y k) w w1):=by
  refine⟨⟨_,_,⟨HH.out.ca.cut.but b1 (fun k q=>HH.out.dj k q.1),d1,fun k q q'=>?_⟩,fun k hk=>⟨fun q=>?_,fun q=>q.1⟩⟩,b1.mono (fun k _ q=>.inl q)⟩
  ·rcases q' with q' | q'
   ·exact HH.out.dj k q.1 q'
   ·omega
  ·rcases q with q | q
   ·exact q
   ·omega
 clear d1 b1 HW HH
 go_wp2
 go_ret
 exact⟨rfl,FIN.out.1,FIN.out.2⟩
open Go.RowKit Go.ChangeMaps
theorem Own.ne_cab{g cap room:Nat}(ho:Own w g n cap zs)(h:Cab w c p room r mp hi mi):g≠c:=fun q=>by
 obtain⟨cur,hk⟩:=ho.kind
 unfold Cab at h
 rw[<- q,hk]at h
 cases h
theorem Ca.count{room:Nat}{hi' mi':Int}{f:Nat->En}{Z:Nat->List Int}(h:Ca X w c p room r mp n hi mi es f Z)(hb:Cab w' c p room r mp hi' mi')(b:But (fun k=>k=c) w w'):Ca X w' c p room r mp n hi' mi' es f Z:=by
 obtain⟨D,hm,hD⟩:=h.map
 refine⟨hb,fun x hx=>(b.block x (h.ens x hx).lt (h.blk.ne_ent (h.ens x hx))).trans (h.ens x hx),h.ring,⟨D,ownsMap_keep hm (b.block mp (ownsMap_lt hm) (fun q=>h.blk.ne_map hm q.symm)),hD⟩,fun e he=>?_,h.xc,h.xm,h.xe⟩
 obtain⟨g,cap,q1,q2,q3,q4⟩:=h.dat e he
 exact⟨g,cap,q1,q2.keep (b.block g q2.lt (q2.ne_cab h.blk)),q3,q4⟩
theorem Ca.addHit{room:Nat}{f:Nat->En}{Z:Nat->List Int}(h:Ca X w c p room r mp n hi mi es f Z)(y:Int):Ca X (w.setCell ⟨c,4,none⟩ (.int .i64 y)) c p room r mp n y mi es f Z:=by
 have hg:Cg w c p room (.pointer (some ⟨r,0,none⟩)) (.map (some mp)) hi mi:=h.blk
 exact h.count (by simpa [Cab] using hg.set 4 (.int .i64 y)) ((But.refl (fun y=>y=c) w).setCell (p:=⟨c,4,none⟩) (show (fun y=>y=c) c from rfl) _)
theorem Ca.addMiss{room:Nat}{f:Nat->En}{Z:Nat->List Int}(h:Ca X w c p room r mp n hi mi es f Z)(y:Int):Ca X (w.setCell ⟨c,5,none⟩ (.int .i64 y)) c p room r mp n hi y es f Z:=by
 have hg:Cg w c p room (.pointer (some ⟨r,0,none⟩)) (.map (some mp)) hi mi:=h.blk
 exact h.count (by simpa [Cab] using hg.set 5 (.int .i64 y)) ((But.refl (fun y=>y=c) w).setCell (p:=⟨c,5,none⟩) (show (fun y=>y=c) c from rfl) _)
theorem Ca.latest{room:Nat}{A B:List Nat}{f:Nat->En}{Z:Nat->List Int}(h:Ca X w c p room r mp n hi mi (A++e :: B) f Z) :
  Calls Tryz.prog 235 #[.pointer (some ⟨c,0,none⟩),.pointer (some ⟨e,0,none⟩)] w fun q w'=>q=.returned (.tuple #[])/\Ca X w' c p room r mp n hi mi (A++B++[e]) (lnk (unl f e) e r) Z/\But X w w':=by
 obtain⟨D,hm,hD⟩:=h.map
 obtain⟨r2,m1,m2⟩:=h.ring.unl
 have hVm:¬mp∈r :: (A++e :: B):=fun hv=>ent_ne_map hm (h.ens mp hv) rfl
 have hVc:¬c∈r :: (A++e :: B):=fun hv=>h.blk.ne_ent (h.ens c hv) rfl
 have nen:e ∉ r :: (A++B):=by
  have hn:=h.ring.1
  have hn2:((r :: A)++e :: B).Nodup:=by simpa using hn
  obtain⟨_,n2,n3⟩:=List.nodup_append.1 hn2
  intro hq
  simp at hq
  rcases hq with q | q | q
  ·exact n3 r (by simp) e (by simp) q.symm
  ·exact n3 e (by simp[q]) e (by simp) rfl
  ·exact (List.nodup_cons.1 n2).1 q
 have hbf:(f e).bf∈r :: (A++e :: B):=by rcases m1 with q | q;rw[q];simp;simp[q]
 have haf:(f e).af∈r :: (A++e :: B):=by rcases m2 with q | q;rw[q];simp;simp[q]
 have hbr:(unl f e r).bf∈r :: (A++e :: B):=by
  have:=r2.bfr
  simp at this ⊢
  rcases this with q | q | q
  ·exact .inl q
  ·exact .inr (.inl q)
  ·exact .inr (.inr (.inr q))
 have mem:∀y,y∈A++B++[e] ↔ y∈A++e :: B:=fun y=>by
  simp only[List.mem_append,List.mem_cons,or_false,List.not_mem_nil]
  constructor <;> (intro q;rcases q with q | q) <;> first | (rcases q with q | q <;> simp[q]) | simp[q]
 have mem':∀y,y∈r :: (A++B++[e])->y∈r :: (A++e :: B):=fun y hy=>by
  rcases List.mem_cons.1 hy with q | q
  ·rw[q];simp
  ·exact List.mem_cons_of_mem _ ((mem y).1 q)
 refine Calls.mono (makeLatest_any h.ens (c:=c) h.blk.cells.2.2.1 hVc h.blk.lt (by simp) hbf haf (by simp) hbr) ?_
 rintro q w' ⟨rfl,h2,b2⟩
 refine⟨rfl,⟨(b2.block c h.blk.lt hVc).trans h.blk,fun y hy=>h2 y (mem' y hy),r2.lnk nen,⟨D,ownsMap_keep hm (b2.block mp (ownsMap_lt hm) hVm),hD.congr mem (by simp) (fun y _=>by rw[(lnk_same _ _ _ _).1,(unl_same _ _ _).1])⟩,fun y hy=>?_,h.xc,h.xm,fun y hy=>h.xe y (mem' y hy)⟩,b2.mono (fun y _ hy=>h.xe y hy)⟩
 obtain⟨g',cap',q1,q2,q3,q4⟩:=h.dat y ((mem y).1 hy)
 exact⟨g',cap',by rw[(lnk_same _ _ _ _).2,(unl_same _ _ _).2];exact q1,q2.keep (b2.block g' q2.lt (fun hv=>q2.ne_ent (h.ens g' hv) rfl)),q3,q4⟩
open Go.RowKit Go.ChangeMaps
theorem CRead_hit{room:Nat}{A B:List Nat}{f:Nat->En}{Z:Nat->List Int}{puts:List (Nat×List Int)}{nb:Nat}(h:Ca Y w c p room r mp n hi mi (A++e :: B) f Z)(hD:Dk X w p img puts fu false nb)(hhi:0<=hi/\hi<4611686018427387904)(hat:(Lit.int .i64 (f e).at_).wf=true) :
  Calls Tryz.prog 260 #[.pointer (some ⟨c,0,none⟩),.int .i64 (f e).at_] w fun q w'=>∃g cap,q=.returned (.tuple #[.slice (some ⟨g,0,none⟩) 512 cap,.int .i64 0])/\w.heap.size<=g/\Own w' g 512 cap (Z e)/\(∃f',Ca Y w' c p room r mp n (hi+1) mi (A++B++[e]) f' Z/\∀y,(f' y).at_=(f y).at_)/\But Y w w':=by
 obtain⟨D,hm,hBM⟩:=h.map
 have hkey:keyOf Tryz.prog 3 (.int .i64 (f e).at_)=some (.int .i64 (f e).at_):=Maps.keyOf_int_mk Tryz.underlying3 hat
 obtain⟨hhas,hatk⟩:=hBM.hit e (by simp)
 obtain⟨x0,x1,x2,x3,x4,x5⟩:=h.blk.cells
 have HO:=hid (On_any hD)
 have hcl:=h.blk.lt
 have H:=hid h
 generalize hxx:(f e).at_=x at *
 clear h hBM hD
 go_enter Tryz.func260,Tryz.ntmps260
 go_wp2_with (at_lookup;refine wpList_lookup_own_ok _ rfl _ _ 186 rfl 3 185 law3 Tryz.underlying186 ptrElem (zero45 _) .nil [] rfl mp n D rfl hm _ _ rfl hkey ?_;intro v ps hv;rw[hatk .nil]at hv;obtain rfl:=ptrElem_inv hv;rw[hhas])
 refine Calls.mono HO.out ?_
 rintro q w1 ⟨rfl,b1⟩
 have h1:Ca Y w1 c p room r mp n hi mi (A++e :: B) f Z:=H.out.keep (fun k _ hk=>b1.block k hk)
 obtain⟨y0,y1,y2,y3,y4,y5⟩:=h1.blk.cells
 have f4:w1.frozen? ⟨c,4,none⟩=false:=h1.blk.frozen 4
 obtain⟨w2,hw2⟩:∃w2,w2=w1.setCell ⟨c,4,none⟩ (.int .i64 (hi+1)):=⟨_,rfl⟩
 have h2:Ca Y w2 c p room r mp n (hi+1) mi (A++e :: B) f Z:=by rw[hw2];exact h1.addHit (hi+1)
 have b2:But Y w1 w2:=by rw[hw2];exact (But.refl Y w1).setCell (p:=⟨c,4,none⟩) h1.xc _
 have HL:=hid h2.latest
 have K:=hid (And.intro b1 b2)
 clear h1 h2 b1 b2
 go_wp2_with fail
 rw[<- hw2]
 refine Calls.mono HL.out ?_
 rintro q w3 ⟨rfl,h3,b3⟩
 obtain⟨g,cap,q1,q2,q3,q4⟩:=h3.dat e (by simp)
 have z1:=(h3.ens e (by simp)).cells.2.1
 rw[q1]at z1
 have HC:=hid (Clone_any ⟨g,0,none⟩ 512 cap (Z e) w3 (by omega) (q2.rd q3))
 have K3:=hid (And.intro h3 b3)
 clear h3 b3 q1 q2 q3 q4 HL
 go_wp2_with fail
 refine Calls.mono HC.out ?_
 rintro q w4 ⟨g',cap',rfl,g4,o4,b4⟩
 have FIN:Hid (w.heap.size<=g'/\Own w4 g' 512 cap' (Z e)/\(∃f',Ca Y w4 c p room r mp n (hi+1) mi (A++B++[e]) f' Z/\∀y,(f' y).at_=(f y).at_)/\But Y w w4):=by
  have s1:=K.out.1.size
  have s2:=K.out.2.size
  have s3:=K3.out.2.size
  exact⟨by omega,o4,⟨_,K3.out.1.keep (fun k _ hk=>b4.block k hk),fun y=>by rw[(lnk_same _ _ _ _).1,(unl_same _ _ _).1]⟩,((But.of_below K.out.1).trans K.out.2).trans (K3.out.2.trans (But.of_below b4))⟩
 clear o4 b4 HC K K3 H HO
 go_wp2
 go_ret2
 exact⟨g',cap',rfl,FIN.out.1,FIN.out.2.1,FIN.out.2.2.1,FIN.out.2.2.2⟩
open Go.RowKit Go.ChangeMaps
theorem foldl_P{P:List Int->Prop} :∀(ps:List (Nat×List Int)) (s:List Int),P s->(∀q∈ps,P q.2)->P (ps.foldl (fun s q=>if q.1=x then q.2 else s) s)
 | [],_,h,_=>h
 | q :: t,s,h,ht=>by
  simp only[List.foldl_cons]
  refine foldl_P t _ ?_ (fun q' hq=>ht q' (by simp[hq]))
  split
  ·exact ht q (by simp)
  ·exact h
theorem Dk.seen{puts:List (Nat×List Int)}{nb:Nat}(h:Dk X w p img puts fu off nb)(hx:x<nb):(seenZ img puts x).length=512/\Pl.isB (seenZ img puts x):=by
 have hf:=h.facts
 obtain⟨ds,gL,cL,pv,mp,rfl,h⟩:=h
 unfold seenZ
 refine foldl_P (P:=fun s=>s.length=512/\Pl.isB s) _ _ ⟨by simp[hf.2.1];omega,fun z hz=>hf.1 z (List.mem_of_mem_drop (List.mem_of_mem_take hz))⟩ (fun q hq=>?_)
 obtain⟨d,hd,rfl⟩:=List.mem_map.1 hq
 exact⟨(h.dat d hd).1.len,(h.dat d hd).2.1⟩
theorem Cst.addMiss{room:Nat}{l:List (Int×List Int)}(h:Cst X w c p room hi mi l)(y:Int):Cst X (w.setCell ⟨c,5,none⟩ (.int .i64 y)) c p room hi y l:=by
 obtain⟨r,mp,n,es,f,Z,h1,h2⟩:=h
 exact⟨r,mp,n,es,f,Z,h1.addMiss y,h2⟩
open Go.RowKit Go.ChangeMaps
theorem CD.below{room:Nat}{l:List (Int×List Int)}{puts:List (Nat×List Int)}{nb:Nat}(h:CD X Y w c p room hi mi l img puts fu off nb)(b:Below w.heap.size w w'):∃X' Y',CD X' Y' w' c p room hi mi l img puts fu off nb/\Grown X Y X' Y' w :=
 ⟨_,_,⟨h.ca.cut.keep (fun k _ hk=>b.block k hk),h.dk.cut.below b,fun k q q'=>h.dj k q.1 q'.1⟩,fun _ _=>⟨fun q=>q.1,fun q=>q.1⟩⟩
theorem CRead_bad{room:Nat}{l:List (Int×List Int)}{puts:List (Nat×List Int)}{nb:Nat}(h:CD X Y w c p room hi mi l img puts fu off nb)(hl:puts.length<=1073741824){x:Int}(hwf:(Lit.int .i64 x).wf=true)(hx:∀q∈l,q.1≠x)(hz:(readR img puts off nb x).1≠0) :
  Calls Tryz.prog 260 #[.pointer (some ⟨c,0,none⟩),.int .i64 x] w fun q w'=>q=.returned (.tuple #[.slice none 0 0,.int .i64 (readR img puts off nb x).1])/\Below w.heap.size w w':=by
 have HR:=hid (Read_any h.dk x hl)
 generalize (readR img puts off nb x).2=zs at *
 generalize (readR img puts off nb x).1=cd at *
 obtain⟨r,mp,n,es,f,Z,h1,hlv,_⟩:=h.ca
 obtain⟨D,hm,hBM⟩:=h1.map
 have hkey:keyOf Tryz.prog 3 (.int .i64 x)=some (.int .i64 x):=Maps.keyOf_int_mk Tryz.underlying3 hwf
 have hhas:=hBM.miss x (fun e he=>hx ((f e).at_,Z e) (by rw[hlv];unfold view;exact List.mem_map.2 ⟨e,he,rfl⟩))
 obtain⟨x0,x1,x2,x3,x4,x5⟩:=h1.blk.cells
 clear h hBM h1 hx hlv
 go_enter Tryz.func260,Tryz.ntmps260
 go_wp2_with (at_lookup;refine wpList_lookup_own_ok _ rfl _ _ 186 rfl 3 185 law3 Tryz.underlying186 ptrElem (zero45 _) .nil [] rfl mp n D rfl hm _ _ rfl hkey ?_;intro v ps hv;clear hv;rw[hhas])
 refine Calls.mono HR.out ?_
 rintro q w1 ⟨al,cp,rfl,hal,b1⟩
 have FIN:=hid b1
 clear b1 hal HR
 go_wp2
 go_ret2
 exact⟨rfl,FIN.out⟩
theorem CRead_off{room:Nat}{f:Nat->En}{Z:Nat->List Int}{puts:List (Nat×List Int)}{nb:Nat}(h:Ca Y w c p room r mp n hi mi es f Z)(he:e∈es)(hD:Dk X w p img puts fu true nb)(hl:puts.length<=1073741824)(hat:(Lit.int .i64 (f e).at_).wf=true) :
  Calls Tryz.prog 260 #[.pointer (some ⟨c,0,none⟩),.int .i64 (f e).at_] w fun q w'=>q=.returned (.tuple #[.slice none 0 0,.int .i64 24])/\Below w.heap.size w w':=by
 obtain⟨D,hm,hBM⟩:=h.map
 have hkey:keyOf Tryz.prog 3 (.int .i64 (f e).at_)=some (.int .i64 (f e).at_):=Maps.keyOf_int_mk Tryz.underlying3 hat
 obtain⟨hhas,hatk⟩:=hBM.hit e he
 obtain⟨x0,x1,x2,x3,x4,x5⟩:=h.blk.cells
 have HO:=hid (On_any hD)
 have hcl:=h.blk.lt
 have H:=hid hD
 generalize hxx:(f e).at_=x at *
 clear h hBM hD
 go_enter Tryz.func260,Tryz.ntmps260
 go_wp2_with (at_lookup;refine wpList_lookup_own_ok _ rfl _ _ 186 rfl 3 185 law3 Tryz.underlying186 ptrElem (zero45 _) .nil [] rfl mp n D rfl hm _ _ rfl hkey ?_;intro v ps hv;rw[hatk .nil]at hv;obtain rfl:=ptrElem_inv hv;rw[hhas])
 refine Calls.mono HO.out ?_
 rintro q w1 ⟨rfl,b1⟩
 have HR:=hid (Read_any (H.out.below b1) x hl)
 have hrr:readR img puts true nb x=(24,[]):=rfl
 rw[hrr]at HR
 have y0:w1.cell? ⟨c,0,none⟩=some (.pointer (some ⟨p,0,none⟩)):=(World.cell?_of_block (w:=w) (b1.block c hcl)).trans x0
 have K:=hid b1
 clear b1
 go_wp2_with fail
 refine Calls.mono HR.out ?_
 rintro q w2 ⟨al,cp,rfl,hal,b2⟩
 have FIN:=hid (K.out.trans (b2.mono K.out.size))
 clear b2 hal HR K
 go_wp2
 go_ret2
 exact⟨rfl,FIN.out⟩
open Go.RowKit Go.ChangeMaps
def Good (l:List (Int×List Int)) (img:List Int) (puts:List (Nat×List Int)) (nb:Nat):Prop:=∀q∈l,0<=q.1/\q.1<nb/\q.2=seenZ img puts q.1.toNat
abbrev inL (l:List (Int×List Int)) (x:Int):Prop:=x∈l.map (·.1)
def hitN (l:List (Int×List Int)) (cd x:Int):Int:=if cd=0/\inL l x then 1 else 0
def missN (l:List (Int×List Int)) (cd x:Int):Int:=if cd=0/\¬inL l x then 1 else 0
def readL (room:Nat) (l:List (Int×List Int)) (rr:Int×List Int) (x:Int):List (Int×List Int):=if rr.1=0 then holdL room l x rr.2 else l
theorem view_move{room:Nat}{A B:List Nat}{f:Nat->En}{Z Z':Nat->List Int}{D:DataW Nat}(hD:BM D (A++e :: B) f)(hnd:(A++e :: B).Nodup)(hrm:(A++e :: B).length<=room)(q2:∀y,(f' y).at_=(f y).at_)(q4:∀y,y≠e->Z' y=Z y):view (A++B++[e]) f' Z'=holdL room (view (A++e :: B) f Z) (f e).at_ (Z' e):=by
 obtain⟨n1,n2,n3⟩:=List.nodup_append.1 hnd
 have hA:∀y∈A,y≠e:=fun y hy q=>n3 y hy e (by simp) q
 have hB:∀y∈B,y≠e:=fun y hy q=>(List.nodup_cons.1 n2).1 (by rw[<- q];exact hy)
 have hA':∀y∈A,(f y).at_≠(f e).at_:=fun y hy q=>hA y hy (hD.uniq (by simp[hy]) (by simp) q)
 have hB':∀y∈B,(f y).at_≠(f e).at_:=fun y hy q=>hB y hy (hD.uniq (by simp[hy]) (by simp) q)
 have e1:view (A++B++[e]) f' Z'=view A f Z++view B f Z++[((f e).at_,Z' e)]:=by
  rw[view_app,view_app,view_congr (es:=A) (f:=f) (Z:=Z) (fun y hy=>⟨q2 y,q4 y (hA y hy)⟩),view_congr (es:=B) (f:=f) (Z:=Z) (fun y hy=>⟨q2 y,q4 y (hB y hy)⟩)]
  simp[view,q2]
 have e2:(view (A++e :: B) f Z).filter (fun q=>q.1≠(f e).at_)=view A f Z++view B f Z:=by
  have:view (A++e :: B) f Z=view A f Z++((f e).at_,Z e) :: view B f Z:=by simp[view]
  rw[this,List.filter_append,view_none hA']
  simp only[ne_eq,decide_not,List.filter_cons,decide_true,Bool.not_true,Bool.false_eq_true,if_false]
  have hf:=view_none (Z:=Z) hB'
  simp only[ne_eq,decide_not]at hf
  rw[hf]
 unfold holdL
 rw[e2,e1,if_neg]
 simp[view_len]at hrm ⊢
 omega
open Go.RowKit Go.ChangeMaps
def heldZ (l:List (Int×List Int)) (x:Int):Option (List Int):=(l.find? (fun q=>q.1 == x)).map (·.2)
def readS (l:List (Int×List Int)) (img:List Int) (puts:List (Nat×List Int)) (off:Bool) (nb:Nat) (x:Int):Int×List Int :=
 if off then (24,[]) else match heldZ l x with
  | some z=>(0,z)
  | none=>readR img puts off nb x
theorem heldZ_none{l:List (Int×List Int)}{x:Int}(h:¬inL l x):heldZ l x=none:=by
 unfold heldZ
 rw[List.find?_eq_none.2 (fun q hq=>by
  have:q.1≠x:=fun e=>h (List.mem_map.2 ⟨q,hq,e⟩)
  simpa using this)]
 rfl
theorem heldZ_view{A B:List Nat}{f:Nat->En}{Z:Nat->List Int}{D:DataW Nat}(hD:BM D (A++e :: B) f)(hnd:(A++e :: B).Nodup):heldZ (view (A++e :: B) f Z) (f e).at_=some (Z e):=by
 obtain⟨_,_,n3⟩:=List.nodup_append.1 hnd
 have hv:view (A++e :: B) f Z=view A f Z++((f e).at_,Z e) :: view B f Z:=by simp[view]
 have hA:(view A f Z).find? (fun q=>q.1 == (f e).at_)=none:=List.find?_eq_none.2 (fun q hq=>by
  unfold view at hq
  obtain⟨y,hy,rfl⟩:=List.mem_map.1 hq
  have:(f y).at_≠(f e).at_:=fun q=>n3 y hy e (by simp) (hD.uniq (by simp[hy]) (by simp) q)
  simpa using this)
 unfold heldZ
 rw[hv,List.find?_append,hA]
 simp
open Go.RowKit Go.ChangeMaps
theorem CRead_miss2{room:Nat}{l:List (Int×List Int)}{puts:List (Nat×List Int)}{nb:Nat}(h:CD X Y w c p room hi mi l img puts fu off nb)(hl:puts.length<=1073741824){x:Int}(hwf:(Lit.int .i64 x).wf=true)(hx:∀q∈l,q.1≠x)(hmi:0<=mi/\mi<4611686018427387904)(hz:(readR img puts off nb x).1=0) :
  Calls Tryz.prog 260 #[.pointer (some ⟨c,0,none⟩),.int .i64 x] w fun q w'=>∃g cap,q=.returned (.tuple #[.slice (some ⟨g,0,none⟩) 512 cap,.int .i64 0])/\w.heap.size<=g/\Own w' g 512 cap (readR img puts off nb x).2/\(∃X' Y',CD X' Y' w' c p room hi (mi+1) (holdL room l x (readR img puts off nb x).2) img puts fu off nb/\Grown X Y X' Y' w/\¬X' g/\¬Y' g)/\But (fun k=>X k\/Y k) w w':=by
 have hrr:(readR img puts off nb x).2.length=512/\Pl.isB (readR img puts off nb x).2:=by
  unfold readR at hz ⊢
  split at hz
  ·simp at hz
  ·split at hz
   ·simp at hz
   ·rw[if_neg ‹_›,if_neg ‹_›]
    exact h.dk.seen (by omega)
 have HR:=hid (Read_any h.dk x hl)
 rw[hz]at HR
 generalize (readR img puts off nb x).2=zs at *
 obtain⟨hlen,hisb⟩:=hrr
 rw[hlen]at HR
 obtain⟨r,mp,n,es,f,Z,h1,hlv,_⟩:=h.ca
 obtain⟨D,hm,hBM⟩:=h1.map
 have hkey:keyOf Tryz.prog 3 (.int .i64 x)=some (.int .i64 x):=Maps.keyOf_int_mk Tryz.underlying3 hwf
 have hhas:=hBM.miss x (fun e he=>hx ((f e).at_,Z e) (by rw[hlv];unfold view;exact List.mem_map.2 ⟨e,he,rfl⟩))
 obtain⟨x0,x1,x2,x3,x4,x5⟩:=h1.blk.cells
 have hcl:=h1.blk.lt
 have hYc:=h1.xc
 have H:=hid h
 clear h hBM h1 hx hz hlv
 go_enter Tryz.func260,Tryz.ntmps260
 go_wp2_with (at_lookup;refine wpList_lookup_own_ok _ rfl _ _ 186 rfl 3 185 law3 Tryz.underlying186 ptrElem (zero45 _) .nil [] rfl mp n D rfl hm _ _ rfl hkey ?_;intro v ps hv;clear hv;rw[hhas])
 refine Calls.mono HR.out ?_
 rintro q w1 ⟨al,cp,rfl,hal,b1⟩
 obtain⟨g,rfl,hg,o1⟩:∃g,al=some ⟨g,0,none⟩/\w.heap.size<=g/\Own w1 g 512 cp zs:=by
  rcases hal with ⟨_,_,q⟩ | q
  ·rw[q]at hlen;simp at hlen
  ·exact q
 have s1:=b1.size
 have y5:w1.cell? ⟨c,5,none⟩=some (.int .i64 mi):=(World.cell?_of_block (w:=w) (b1.block c hcl)).trans x5
 have ca1:Cst (fun k=>(Y k/\k<w.heap.size)\/k=g) w1 c p room hi mi l:=(H.out.ca.cut.keep (fun k q hk=>b1.block k hk)).mono (fun k _ q=>.inl q)
 obtain⟨v2,v3,cg1,_⟩:=ca1.cg
 have f5:=cg1.frozen 5
 obtain⟨w2,hw2⟩:∃w2,w2=w1.setCell ⟨c,5,none⟩ (.int .i64 (mi+1)):=⟨_,rfl⟩
 have ca2:Cst (fun k=>(Y k/\k<w.heap.size)\/k=g) w2 c p room hi (mi+1) l:=by rw[hw2];exact ca1.addMiss (mi+1)
 have b2:But (fun k=>k=c) w1 w2:=by rw[hw2];exact (But.refl (fun y=>y=c) w1).setCell (p:=⟨c,5,none⟩) (show (fun y=>y=c) c from rfl) _
 have z2:w2.heap.size=w1.heap.size:=by rw[hw2];simp[World.setCell]
 have HH:=hid (hold_any ca2 (o1.keep (b2.block g o1.lt (by omega))) hisb (.inr rfl) hwf)
 have K:=hid (And.intro b1 b2)
 clear ca1 ca2 b1 b2 o1 cg1 hal HR x0 x1 x2 x3 x4 x5
 go_wp2_with fail
 rw[<- hw2]
 refine Calls.mono HH.out ?_
 rintro q w3 ⟨rfl,ca3,b3,o3⟩
 have HC:=hid (Clone_any ⟨g,0,none⟩ 512 cp zs w3 (by omega) (o3.rd hisb))
 have K3:=hid (And.intro ca3 b3)
 clear ca3 b3 o3 HH
 go_wp2_with fail
 refine Calls.mono HC.out ?_
 rintro q w4 ⟨g',cap',rfl,g4,o4,b4⟩
 have FIN:Hid (w.heap.size<=g'/\Own w4 g' 512 cap' zs/\(∃X' Y',CD X' Y' w4 c p room hi (mi+1) (holdL room l x zs) img puts fu off nb/\Grown X Y X' Y' w/\¬X' g'/\¬Y' g')/\But (fun k=>X k\/Y k) w w4):=by
  have s3:=K3.out.2.size
  have hdj:=H.out.dj
  refine⟨by omega,o4,⟨fun k=>X k/\k<w.heap.size,_,⟨K3.out.1.cut.keep (fun k _ hk=>b4.block k hk),((((H.out.dk.cut.below K.out.1).but K.out.2 (fun k q q'=>hdj c hYc (by rw[<- q'];exact q.1))).but K3.out.2 (fun k q q'=>?_)).below b4),fun k q q'=>?_⟩,fun k hk=>⟨fun q=>q.1,fun q=>?_⟩,fun q=>by have:=q.2;omega,fun q=>by have:=q.2;omega⟩,?_⟩
  ·rcases q' with ⟨q1,q2⟩ | q1
   ·exact hdj k q1 q.1
   ·omega
  ·rcases q.1 with (⟨q1,q2⟩ | q1) | q1
   ·exact hdj k q1 q'.1
   ·omega
   ·omega
  ·rcases q.1 with (⟨q1,q2⟩ | q1) | q1
   ·exact q1
   ·omega
   ·omega
  ·have e1:But (fun k=>X k\/Y k) w w2:=(But.of_below K.out.1).comp K.out.2 (fun k _ q=>.inr (by rw[q];exact hYc))
   exact (e1.comp K3.out.2 (fun k hk q=>by
    rcases q with ⟨q1,q2⟩ | q1
    ·exact .inr q1
    ·omega)).trans (But.of_below b4)
 clear o4 b4 HC K K3 H
 go_wp2
 go_ret2
 exact⟨g',cap',rfl,FIN.out.1,FIN.out.2.1,FIN.out.2.2.1,FIN.out.2.2.2⟩
theorem CRead_full2{room:Nat}{l:List (Int×List Int)}{puts:List (Nat×List Int)}{nb:Nat}(h:CD X Y w c p room hi mi l img puts fu off nb)(hYc:∀k,Y k->k<w.heap.size)(hl:puts.length<=1073741824){x:Int}(hwf:(Lit.int .i64 x).wf=true)(hhi:0<=hi/\hi<4611686018427387904)(hmi:0<=mi/\mi<4611686018427387904) :
  Calls Tryz.prog 260 #[.pointer (some ⟨c,0,none⟩),.int .i64 x] w fun q w'=>∃al cp,q=.returned (.tuple #[.slice al (readS l img puts off nb x).2.length cp,.int .i64 (readS l img puts off nb x).1]) /\
   ((al=none/\cp=0/\(readS l img puts off nb x).2=[])\/∃g,al=some ⟨g,0,none⟩/\w.heap.size<=g/\Own w' g (readS l img puts off nb x).2.length cp (readS l img puts off nb x).2) /\
   (∃X' Y',CD X' Y' w' c p room (hi+hitN l (readS l img puts off nb x).1 x) (mi+missN l (readS l img puts off nb x).1 x) (readL room l (readS l img puts off nb x) x) img puts fu off nb/\Grown X Y X' Y' w/\∀g,al=some ⟨g,0,none⟩->¬X' g/\¬Y' g)/\But (fun k=>X k\/Y k) w w'/\Pl.isB (readS l img puts off nb x).2:=by
 by_cases hin:inL l x
 ·obtain⟨q0,hq0,hqx⟩:=List.mem_map.1 hin
  obtain⟨r,mp,n,es,f,Z,h1,rfl,h3,h4,h5,h6⟩:=h.ca
  unfold view at hq0
  obtain⟨e,he,rfl⟩:=List.mem_map.1 hq0
  simp only at hqx
  subst hqx
  cases off with
  | true=>
   have hrr:readS (view es f Z) img puts true nb (f e).at_=(24,[]):=rfl
   rw[hrr]
   refine Calls.mono (CRead_off h1 he h.dk hl hwf) ?_
   rintro q w' ⟨rfl,b⟩
   refine⟨none,0,rfl,.inl ⟨rfl,rfl,rfl⟩,?_,But.of_below b,Pl.isB_nil⟩
   obtain⟨X',Y',t1,t2⟩:=h.below b
   refine⟨X',Y',?_,t2,fun g e=>by cases e⟩
   simpa [hitN,missN,readL] using t1
  | false=>
   obtain⟨A,B,rfl⟩:=List.append_of_mem he
   obtain⟨D,hm,hD⟩:=h1.map
   have hrr:readS (view (A++e :: B) f Z) img puts false nb (f e).at_=(0,Z e):=by
    unfold readS
    rw[if_neg (by simp),heldZ_view hD (List.nodup_cons.1 h1.ring.1).2]
   rw[hrr]
   obtain⟨g0,c0,_,o0,z0,_⟩:=h1.dat e (by simp)
   have hlen:(Z e).length=512:=o0.len
   refine Calls.mono (CRead_hit h1 h.dk hhi hwf) ?_
   rintro q w' ⟨g,cap,rfl,q1,q2,⟨f',q3,q4⟩,b⟩
   refine⟨some ⟨g,0,none⟩,cap,by simp only[hlen],.inr ⟨g,rfl,q1,by simp only[hlen];exact q2⟩,?_,b.mono (fun k _ q=>.inr q),z0⟩
   have e1:hitN (view (A++e :: B) f Z) (0,Z e).1 (f e).at_=1:=by unfold hitN;rw[if_pos ⟨rfl,hin⟩]
   have e2:missN (view (A++e :: B) f Z) (0,Z e).1 (f e).at_=0:=by unfold missN;rw[if_neg (fun q=>q.2 hin)]
   have e3:readL room (view (A++e :: B) f Z) (0,Z e) (f e).at_=view (A++B++[e]) f' Z:=by
    unfold readL
    rw[if_pos rfl]
    exact (view_move hD (List.nodup_cons.1 h1.ring.1).2 h3 q4 (fun _ _=>rfl)).symm
   rw[e1,e2,e3,Int.add_zero]
   refine⟨fun k=>X k/\k<w.heap.size,Y,⟨⟨r,mp,n,_,f',Z,q3,rfl,by simp at h3 ⊢;omega,h4,h5,fun y hy=>by rw[q4];exact h6 y (by simp at hy ⊢;rcases hy with q | q | q <;> simp[q])⟩,h.dk.cut.but b (fun k q q'=>h.dj k q' q.1),fun k q q'=>h.dj k q q'.1⟩,fun k hk=>⟨fun q=>q.1,fun q=>q⟩,fun g' e=>by cases e;exact⟨fun q=>by have:=q.2;omega,fun q=>by have:=hYc _ q;omega⟩⟩
 ·have hx:∀q∈l,q.1≠x:=fun q hq e=>hin (List.mem_map.2 ⟨q,hq,e⟩)
  have hS:readS l img puts off nb x=readR img puts off nb x:=by
   unfold readS
   rw[heldZ_none hin]
   cases off <;> rfl
  rw[hS]
  have hB:Pl.isB (readR img puts off nb x).2:=by
   unfold readR
   split
   ·exact Pl.isB_nil
   ·split
    ·exact Pl.isB_nil
    ·exact (h.dk.seen (by omega)).2
  by_cases hz:(readR img puts off nb x).1=0
  ·have hlen:(readR img puts off nb x).2.length=512:=by
    unfold readR at hz ⊢
    split at hz
    ·simp at hz
    ·split at hz
     ·simp at hz
     ·rw[if_neg ‹_›,if_neg ‹_›]
      exact (h.dk.seen (by omega)).1
   refine Calls.mono (CRead_miss2 h hl hwf hx hmi hz) ?_
   rintro q w' ⟨g,cap,rfl,q1,q2,q3,b⟩
   have e1:hitN l (readR img puts off nb x).1 x=0:=by unfold hitN;rw[if_neg (fun q=>hin q.2)]
   have e2:missN l (readR img puts off nb x).1 x=1:=by unfold missN;rw[if_pos ⟨hz,hin⟩]
   have e3:readL room l (readR img puts off nb x) x=holdL room l x (readR img puts off nb x).2:=by unfold readL;rw[if_pos hz]
   refine⟨some ⟨g,0,none⟩,cap,by rw[hlen,hz],.inr ⟨g,rfl,q1,by rw[hlen];exact q2⟩,?_,b,hB⟩
   rw[e1,e2,e3,Int.add_zero]
   obtain⟨X',Y',t1,t2,t3,t4⟩:=q3
   exact⟨X',Y',t1,t2,fun g' e=>by cases e;exact⟨t3,t4⟩⟩
  ·have hrr:(readR img puts off nb x).2=[]:=by
    unfold readR at hz ⊢
    split
    ·rfl
    ·split
     ·rfl
     ·rw[if_neg ‹_›,if_neg ‹_›]at hz
      exact absurd rfl hz
   refine Calls.mono (CRead_bad h hl hwf hx hz) ?_
   rintro q w' ⟨rfl,b⟩
   have e1:hitN l (readR img puts off nb x).1 x=0:=by unfold hitN;rw[if_neg (fun q=>hz q.1)]
   have e2:missN l (readR img puts off nb x).1 x=0:=by unfold missN;rw[if_neg (fun q=>hz q.1)]
   have e3:readL room l (readR img puts off nb x) x=l:=by unfold readL;rw[if_neg hz]
   refine⟨none,0,by rw[hrr];rfl,.inl ⟨rfl,rfl,hrr⟩,?_,But.of_below b,hB⟩
   rw[e1,e2,e3,Int.add_zero,Int.add_zero]
   obtain⟨X',Y',t1,t2⟩:=h.below b
   exact⟨X',Y',t1,t2,fun g e=>by cases e⟩
open Go.RowKit
theorem Blocks_any{puts:List (Nat×List Int)}{nb:Nat}(h:Dk X w p img puts fu off nb) :
  Calls Tryz.prog 176 #[.pointer (some ⟨p,0,none⟩)] w fun e w'=>e=.returned (.tuple #[.int .i64 (nb:Int),.int .i64 0])/\w'=w:=by
 obtain⟨ds,gL,cL,pv,mp,rfl,h⟩:=h
 have HC:=hid (count_any h.hi h.blk)
 clear h
 go_enter Tryz.func176,Tryz.ntmps176
 go_wp2_with fail
 refine (ask_none w).mono ?_
 rintro e w1 ⟨rfl,rfl⟩
 go_wp2_with fail
 refine Calls.mono HC.out ?_
 rintro e w1 ⟨rfl,rfl⟩
 go_wp2
 go_ret2
 exact⟨rfl,rfl⟩
end Go.Proofs.YtlefjidbpjkhlaaGreat
