import Derived.Test.YthfojpcibnfmgaaGreatH45
import Derived.Test.YthfojpcibnfmgaaGreatH49
import Derived.Deep.DeepCutAuto
set_option maxRecDepth 100000
set_option maxHeartbeats 16000000
namespace Go.Proofs.YthfojpcibnfmgaaGreat
variable {B M M' b nK x y:Nat}
variable {Q X:Nat->Prop}
variable {w w0:World}
variable {u:Value}
open Go.RowKit Go.Deep
theorem Bok.cut{cnt tot:Nat}(h:Bok B X w b cnt tot nK):Bok B (fun x=>X x/\x<w.heap.size) w b cnt tot nK:=by
 obtain⟨R,fr,he,ma,ke,wa,n,fv,hv,ms,kv,wv,K,Z,h⟩:=h
 refine⟨R,fr,he,ma,ke,wa,n,fv,hv,ms,kv,wv,K,Z,⟨h.hn,h.hml,h.hms,h.hZ,h.bk,h.fs,h.hd,fun x hx=>⟨h.xx x hx,?_⟩⟩⟩
 rcases hx with q | q | q | q | q | q | q | ⟨j,hj,q⟩
 ·rw[q];exact h.bk.blk.lt
 ·exact (World.ownsRow.lt h.bk.oF x q).2
 ·exact (World.ownsRow.lt h.bk.oH x q).2
 ·exact (World.ownsRow.lt h.bk.oM x q).2
 ·exact (World.ownsRow.lt h.bk.rK.own x q).2
 ·exact (World.ownsRow.lt h.bk.rW.own x q).2
 ·exact (h.bk.rT x q).lt
 ·exact (h.fs.own hj q).1.lt
def Tri (Q:Nat->Prop) (w0:World) (x y M b cnt tot nK:Nat) (w:World):Prop:=∃Bx By X,Dsk Bx w x M/\Dsk By w y M/\(∀k,Bx k->¬By k)/\(∀k,X k->¬Bx k/\¬By k/\¬Q k/\k<w.heap.size)/\(∀k,Q k->¬Bx k/\¬By k/\k<w0.heap.size)/\Bok 0 X w b cnt tot nK/\But (fun k=>¬Q k) w0 w
def TriU (Q:Nat->Prop) (w0:World) (x y M b cnt tot nK:Nat) (w:World) (u:Value):Prop:=∃Bx By X,Dsk Bx w x M/\Dsk By w y M/\(∀k,Bx k->¬By k)/\(∀k,X k->¬Bx k/\¬By k/\¬Q k/\k<w.heap.size)/\(∀k,Q k->¬Bx k/\¬By k/\k<w0.heap.size)/\Bok 0 X w b cnt tot nK/\But (fun k=>¬Q k) w0 w/\(u=.slice none 0 0\/∃g cp zs,u=.slice (some ⟨g,0,none⟩) 512 cp/\Own w g 512 cp zs/\zs.length=512/\Pl.isB zs/\¬Bx g/\¬By g/\¬X g/\¬Q g)
theorem Tri.symm{cnt tot:Nat}(h:Tri Q w0 x y M b cnt tot nK w):Tri Q w0 y x M b cnt tot nK w:=by
 obtain⟨Bx,By,X,h1,h2,h3,h4,h5,h6,h7⟩:=h
 exact⟨By,Bx,X,h2,h1,fun k e1 e2=>h3 k e2 e1,fun k e=>⟨(h4 k e).2.1,(h4 k e).1,(h4 k e).2.2⟩,fun k e=>⟨(h5 k e).2.1,(h5 k e).1,(h5 k e).2.2⟩,h6,h7⟩
theorem Tri.base{cnt tot:Nat}(h:Tri Q w0 x y M b cnt tot nK w):But (fun k=>¬Q k) w0 w:=by
 obtain⟨Bx,By,X,h1,h2,h3,h4,h5,h6,h7⟩:=h
 exact h7
theorem Bok.total{cnt tot:Nat}(h:Bok B X w b cnt tot nK):w.cell? ⟨b,1,none⟩=some (.int .i64 (tot:Int)):=by
 obtain⟨R,fr,he,ma,ke,wa,n,fv,hv,ms,kv,wv,K,Z,h⟩:=h
 have:=h.bk.blk.cell 1
 simpa using this
theorem TriU.total{cnt tot:Nat}(h:TriU Q w0 x y M b cnt tot nK w u):w.cell? ⟨b,1,none⟩=some (.int .i64 (tot:Int)):=by
 obtain⟨Bx,By,X,h1,h2,h3,h4,h5,h6,h7,_⟩:=h
 exact h6.total
theorem TriU.drop{cnt tot:Nat}(h:TriU Q w0 x y M b cnt tot nK w u):Tri Q w0 x y M b cnt tot nK w:=by
 obtain⟨Bx,By,X,h1,h2,h3,h4,h5,h6,h7,_⟩:=h
 exact⟨Bx,By,X,h1,h2,h3,h4,h5,h6,h7⟩
theorem Tri.act{cnt tot:Nat}(h:Tri Q w0 x y M b cnt tot nK w)(hM:M<=268435455)(q:Aw)(hq:AwIn Q w q):Calls Tryz.prog 13 #[.pointer (some ⟨x,0,none⟩),q.val,.pointer (some ⟨y,0,none⟩)] w fun e w'=>∃u,e=.returned (.tuple #[.bool true,u])/\TriU Q w0 x y (M+1) b cnt tot nK w' u:=by
 obtain⟨Bx,By,X,h1,h2,h3,h4,h5,h6,h7⟩:=h
 obtain⟨r1,r2,r3,zs,r4⟩:=hq
 refine Calls.mono (h1.act hM h2 hM h3 q ⟨r1,r2,r3,zs,r4.mono (fun k _ e1 e2=>(h5 k e2).1 e1)⟩) ?_
 rintro e w' ⟨u,rfl,B',zs',q1,q2,q3,q4⟩
 have hs:=q3.size
 refine⟨u,rfl,B',By,X,q1,(h2.keep q3 (fun k _ e=>h3 k e)).mono (by omega),fun k e1 e2=>h3 k (q2 k (h2.lt e2) e1) e2,fun k e=>⟨fun e2=>(h4 k e).1 (q2 k (h4 k e).2.2.2 e2),(h4 k e).2.1,(h4 k e).2.2.1,Nat.lt_of_lt_of_le (h4 k e).2.2.2 hs⟩,fun k e1=>⟨fun e2=>(h5 k e1).1 (q2 k (Nat.lt_of_lt_of_le (h5 k e1).2.2 h7.size) e2),(h5 k e1).2⟩,h6.but q3 (fun k _ e1 e2=>(h4 k e1).1 e2),h7.comp q3 (fun k _ e1 e2=>(h5 k e2).1 e1),?_⟩
 rcases q4 with ⟨e1,_⟩ | ⟨g,cp,e1,e2,e3,e4,e5⟩
 ·exact .inl e1
 ·refine .inr ⟨g,cp,zs',e1,e3,e3.len,e4,e5,fun e=>?_,fun e=>?_,fun e=>?_⟩
  ·have:=h2.lt e
   omega
  ·have:=(h4 g e).2.2.2
   omega
  ·have:=(h5 g e).2.2
   have:=h7.size
   omega
theorem TriU.own{cnt tot:Nat}(h:TriU Q w0 x y M b cnt tot nK w u)(hnK:nK<=67108864)(hc:cnt<=8388608)(ht:tot<=30512)(mark:Int)(hm0:0<=mark)(hm1:mark<=268435456):Calls Tryz.prog 14 #[.pointer (some ⟨b,0,none⟩),u,.int .i64 mark] w fun e w'=>e=.returned (.tuple #[])/\∃tot' nK',tot'<=tot+512/\nK'<=nK+15/\Tri Q w0 x y M b (cnt+1) tot' nK' w':=by
 obtain⟨Bx,By,X,h1,h2,h3,h4,h5,h6,h7,h8⟩:=h
 obtain⟨al,cl,zs,eu,hz,hl,hzl,hn⟩:∃al cl zs,u=.slice al zs.length cl/\Pl.isB zs/\((al=none/\zs=[]/\cl=0)\/∃g,al=some ⟨g,0,none⟩/\Own w g zs.length cl zs/\¬X g/\0<=g)/\zs.length<=512/\∀k,u.ownBlock=some k->¬Bx k/\¬By k/\¬Q k:=by
  rcases h8 with h8 | ⟨g,cp,zs,e1,e2,e3,e4,e5,e6,e7,e8⟩
  ·exact⟨none,0,[],h8,Pl.isB_nil,.inl ⟨rfl,rfl,rfl⟩,by simp,fun k e=>by rw[h8]at e;cases e⟩
  ·refine⟨some ⟨g,0,none⟩,cp,zs,by rw[e3];exact e1,e4,.inr ⟨g,rfl,by rw[e3];exact e2,e7,Nat.zero_le _⟩,by omega,fun k e=>?_⟩
   rw[e1]at e
   have:g=k:=by simpa [Value.ownBlock] using e
   subst this
   exact⟨e5,e6,e8⟩
 subst eu
 refine Calls.mono (Own_any 0 X w b cnt tot nK al cl zs mark (Nat.zero_le _) hnK hc (by omega) (by omega) hm0 hm1 h6 hz hl) ?_
 rintro e w' ⟨rfl,nK',g1,g2,g3⟩
 refine⟨rfl,tot+zs.length,nK',by omega,g1,Bx,By,_,h1.keep g3 (fun k _ e=>?_),h2.keep g3 (fun k _ e=>?_),h3,fun k e=>?_,h5,g2.cut,h7.comp g3 (fun k _ e=>?_)⟩
 ·rcases e with e | e
  ·exact (h4 k e).1
  ·exact (hn k e).1
 ·rcases e with e | e
  ·exact (h4 k e).2.1
  ·exact (hn k e).2.1
 ·obtain⟨e,el⟩:=e
  rcases e with e | e | e
  ·exact⟨(h4 k e).1,(h4 k e).2.1,(h4 k e).2.2.1,el⟩
  ·exact⟨(hn k e).1,(hn k e).2.1,(hn k e).2.2,el⟩
  ·refine⟨fun r=>?_,fun r=>?_,fun r=>?_,el⟩
   ·have:=h1.lt r
    omega
   ·have:=h2.lt r
    omega
   ·have:=(h5 k r).2.2
    have:=h7.size
    omega
 ·rcases e with e | e
  ·exact (h4 k e).2.2.1
  ·exact (hn k e).2.2
theorem Tri.holds{cnt tot:Nat}(h:Tri Q w0 x y M b cnt tot nK w)(hnK:nK<=134217728):Calls Tryz.prog 15 #[.pointer (some ⟨b,0,none⟩)] w fun e w'=>e=.returned (.bool true)/\Tri Q w0 x y M b cnt tot nK w':=by
 obtain⟨Bx,By,X,h1,h2,h3,h4,h5,h6,h7⟩:=h
 refine Calls.mono (Holds_any 0 X w b cnt tot nK hnK h6) ?_
 rintro e w' ⟨rfl,g1,g2⟩
 exact⟨rfl,Bx,By,X,h1.keep g2 (fun k _ e=>(h4 k e).1),h2.keep g2 (fun k _ e=>(h4 k e).2.1),h3,fun k e=>⟨(h4 k e).1,(h4 k e).2.1,(h4 k e).2.2.1,Nat.lt_of_lt_of_le (h4 k e).2.2.2 g2.size⟩,h5,g1,h7.comp g2 (fun k _ e=>(h4 k e).2.2.1)⟩
theorem Tri.mono{cnt tot:Nat}(h:Tri Q w0 x y M b cnt tot nK w)(hM:M<=M'):Tri Q w0 x y M' b cnt tot nK w:=by
 obtain⟨Bx,By,X,h1,h2,h3⟩:=h
 exact⟨Bx,By,X,h1.mono hM,h2.mono hM,h3⟩
open Go.RowKit Go.Deep
theorem Pr.tri(h:Pr Q w0 x y M M w):Tri Q w0 x y M w.heap.size 0 0 0 (w.alloc (.cells #[.int .i64 0,.int .i64 0,.bool false,.slice none 0 0,.slice none 0 0,.slice none 0 0,.slice none 0 0,.slice none 0 0] 39)):=by
 obtain⟨Bx,By,h1,h2,h3,h4,h5,h6,h7⟩:=h
 have b:Below w.heap.size w (w.alloc (.cells #[.int .i64 0,.int .i64 0,.bool false,.slice none 0 0,.slice none 0 0,.slice none 0 0,.slice none 0 0,.slice none 0 0] 39)):=(Below.refl _ _).alloc (Nat.le_refl _) _
 refine⟨Bx,By,fun k=>k=w.heap.size,h1.below b,h2.below b,h3,fun k e=>⟨fun r=>?_,fun r=>?_,fun r=>?_,?_⟩,fun k e=>⟨h4 k e,h5 k e,h6 k e⟩,Bok.new (alloc_new rfl _) (Nat.zero_le _),h7.trans (But.of_below b)⟩
 ·have:=h1.lt r
  omega
 ·have:=h2.lt r
  omega
 ·have:=h6 k r
  have:=h7.size
  omega
 ·simp
  omega
theorem owns_law(a1 b1 c1 a2 b2 c2:Int)(sa:Option Addr)(sc:Nat)(As:List Aw)(w:World)(hS:Scr (fun k=>k<w.heap.size) w sa As)(hN:As.length<=1048576) :
  Calls Tryz.prog 7 #[.agg #[.int .i64 a1,.int .i64 b1,.int .i64 c1],.agg #[.int .i64 a2,.int .i64 b2,.int .i64 c2],.slice sa As.length sc] w fun e w'=>e=.returned (.bool true)/\Below w.heap.size w w':=by
 obtain⟨PO,hPO⟩:∃PO:Ending->World->Prop,PO=fun e w'=>e=.returned (.bool true)/\Below w.heap.size w w':=⟨_,rfl⟩
 rw[<- hPO]
 obtain⟨N,hNe⟩:∃N,N=As.length:=⟨_,rfl⟩
 rw[<- hNe]
 have hN3:N<=1048576:=by omega
 obtain⟨pk,hpk⟩:∃pk,pk=w.heap.size:=⟨_,rfl⟩
 obtain⟨wP,hwP⟩:∃wP,wP=w.alloc (.cells #[.int .i64 a1,.int .i64 b1,.int .i64 c1] 23):=⟨_,rfl⟩
 have zP:wP.heap.size=w.heap.size+1:=by rw[hwP];simp
 obtain⟨w0,hw0⟩:∃w0,w0=wP.alloc (.cells #[.int .i64 a2,.int .i64 b2,.int .i64 c2] 23):=⟨_,rfl⟩
 have bP:Below w.heap.size w wP:=by rw[hwP];exact (Below.refl _ _).alloc (Nat.le_refl _) _
 have b0P:Below wP.heap.size wP w0:=by rw[hw0];exact (Below.refl _ _).alloc (Nat.le_refl _) _
 have b0:Below w.heap.size w w0:=bP.trans (b0P.mono (by omega))
 have z0:w0.heap.size=w.heap.size+2:=by rw[hw0];simp[zP]
 obtain⟨Q,hQ⟩:∃Q:Nat->Prop,Q=fun k=>k<w0.heap.size:=⟨_,rfl⟩
 have cA:∀t v,#[Value.int .i64 a1,.int .i64 b1,.int .i64 c1][t]?=some v->w0.cell? ⟨pk,t,none⟩=some v:=fun t v hv=>(b0P.cell (p:=⟨pk,t,none⟩) (by show pk<_;omega)).trans (by rw[hwP,hpk];exact cell_new rfl t _ hv)
 have cB:∀t v,#[Value.int .i64 a2,.int .i64 b2,.int .i64 c2][t]?=some v->w0.cell? ⟨pk+1,t,none⟩=some v:=fun t v hv=>by rw[hw0,hpk,<- zP];exact cell_new rfl t _ hv
 have HCA:Hid (∀w',But (fun k=>¬Q k) w0 w'->w'.cell? ⟨pk,0,none⟩=some (.int .i64 a1)/\w'.cell? ⟨pk,1,none⟩=some (.int .i64 b1)/\w'.cell? ⟨pk,2,none⟩=some (.int .i64 c1)):=fun w' hb=>by
  have K:∀t,w'.cell? ⟨pk,t,none⟩=w0.cell? ⟨pk,t,none⟩:=fun t=>hb.cell (p:=⟨pk,t,none⟩) (by show pk<_;omega) (fun r=>r (by rw[hQ];show pk<_;omega))
  exact⟨(K 0).trans (cA 0 _ rfl),(K 1).trans (cA 1 _ rfl),(K 2).trans (cA 2 _ rfl)⟩
 have HCB:Hid (∀w',But (fun k=>¬Q k) w0 w'->w'.cell? ⟨pk+1,0,none⟩=some (.int .i64 a2)/\w'.cell? ⟨pk+1,1,none⟩=some (.int .i64 b2)/\w'.cell? ⟨pk+1,2,none⟩=some (.int .i64 c2)):=fun w' hb=>by
  have K:∀t,w'.cell? ⟨pk+1,t,none⟩=w0.cell? ⟨pk+1,t,none⟩:=fun t=>hb.cell (p:=⟨pk+1,t,none⟩) (by show pk+1<_;omega) (fun r=>r (by rw[hQ];show pk+1<_;omega))
  exact⟨(K 0).trans (cB 0 _ rfl),(K 1).trans (cB 1 _ rfl),(K 2).trans (cB 2 _ rfl)⟩
 have HFin:Hid (∀w',But (fun k=>¬Q k) w0 w'->PO (.returned (.bool true)) w'):=fun w' hb=>by
  rw[hPO]
  refine⟨rfl,b0.trans (hb.below (by omega) (fun k hk r=>r ?_))⟩
  rw[hQ]
  show k<_
  omega
 have hS0:Scr Q w0 sa As:=by
  refine Scr.wide (Scr.but hS (But.of_below b0)) (fun k hk=>?_)
  rw[hQ]
  show k<_
  omega
 have HS:Hid (∀w',But (fun k=>¬Q k) w0 w'->Scr Q w' sa As):=fun w' hb=>hS0.but hb
 have HO:Hid (Calls Tryz.prog 12 #[.agg #[.int .i64 a1,.int .i64 b1,.int .i64 c1]] w0 fun e w1=>∃x,e=.returned (.tuple #[.pointer (some ⟨x,0,none⟩),.bool true])/\But (fun k=>¬Q k) w0 w1/\Calls Tryz.prog 12 #[.agg #[.int .i64 a2,.int .i64 b2,.int .i64 c2]] w1 fun e w2=>∃y,e=.returned (.tuple #[.pointer (some ⟨y,0,none⟩),.bool true])/\Pr Q w0 x y 0 0 w2):=by
  refine Calls.mono (open_dsk a1 b1 c1 w0) ?_
  rintro e w1 ⟨x,Bx,rfl,d1,l1,q1⟩
  refine⟨x,rfl,But.of_below q1,Calls.mono (open_dsk a2 b2 c2 w1) ?_⟩
  rintro e w2 ⟨y,By,rfl,d2,l2,q2⟩
  refine⟨y,rfl,Bx,By,d1.below q2,d2,fun k e1 e2=>?_,fun k e1 e2=>?_,fun k e1 e2=>?_,fun k e1=>?_,But.of_below (q1.trans (q2.mono q1.size))⟩
  ·have:=d1.lt e1
   have:=l2 k e2
   omega
  ·rw[hQ]at e1
   have e1':k<w0.heap.size:=e1
   have:=l1 k e2
   omega
  ·rw[hQ]at e1
   have e1':k<w0.heap.size:=e1
   have:=l2 k e2
   have:=q1.size
   omega
  ·rw[hQ]at e1
   exact e1
 have HNE:=hid hNe
 have HW0:Hid (w0=(w.alloc (.cells #[.int .i64 a1,.int .i64 b1,.int .i64 c1] 23)).alloc (.cells #[.int .i64 a2,.int .i64 b2,.int .i64 c2] 23)):=hw0.trans (by rw[hwP])
 have HPK:=hid hpk
 obtain⟨d0,d1,d2⟩:=HCA.out w0 (But.refl _ _)
 clear hS hN hw0 hwP hpk b0 b0P bP z0 zP cA cB hPO hNe hQ hS0 HCA
 go_enter Tryz.func7,Tryz.ntmps7
 go_wp2_with fail
 rw[<- HW0.out,<- HPK.out]
 clear HW0 HPK
 go_wp2_with fail
 refine Calls.mono HO.out ?_
 rintro e w1 ⟨x,rfl,g1,q⟩
 have H2:=hid q
 obtain⟨e0,e1,e2⟩:=HCB.out w1 g1
 clear q HO HCB d0 d1 d2 g1
 go_wp2_with fail
 refine Calls.mono H2.out ?_
 rintro e w2 ⟨y,rfl,hP⟩
 obtain⟨w3,hw3⟩:∃w3,w3=w2.alloc (.cells #[.int .i64 0,.int .i64 0,.bool false,.slice none 0 0,.slice none 0 0,.slice none 0 0,.slice none 0 0,.slice none 0 0] 39):=⟨_,rfl⟩
 obtain⟨bb,hbb⟩:∃bb,bb=w2.heap.size:=⟨_,rfl⟩
 have HP0:Hid (Tri Q w0 x y 0 bb 0 0 0 w3):=by
  rw[hw3,hbb]
  exact hP.tri
 have HW3:=hid hw3
 have HBB:=hid hbb
 clear hP H2 e0 e1 e2 hw3 hbb
 go_wp2_with fail
 rw[<- HW3.out,<- HBB.out]
 clear HW3 HBB
 go_loopw [12] (fun iv wr=>∃(i cnt tot nK:Nat),i<=N/\iv=.int .i64 (i:Int)/\Tri Q w0 x y (2 * i) bb cnt tot nK wr/\cnt<=2 * i/\nK<=30 * i/\tot<=31024) (fun iv _=>N-(intOf iv).toNat)
 case atStart=>exact⟨0,0,0,0,Nat.zero_le _,rfl,HP0.out,Nat.zero_le _,Nat.zero_le _,Nat.zero_le _⟩
 case round=>
  clear HP0
  rename World=>wo
  obtain⟨i,cnt,tot,nK,hiN,rfl,hP,hcnt,hnk,htt⟩:=hrel
  by_cases hi9:i<N
  ·have hiL:i<As.length:=by have:=HNE.out;omega
   obtain⟨q,hq⟩:∃q,As[i]?=some q:=⟨As[i],List.getElem?_eq_getElem hiL⟩
   obtain⟨b,off,ea,k0,k1,k2,k3,k4,k5⟩:=(HS.out wo hP.base).at hq
   have HQ:Hid (∀w',But (fun k=>¬Q k) w0 w'->(w'.cell? ⟨b,off+i * 6,none⟩=some (.int .i64 q.wh)/\w'.cell? ⟨b,off+i * 6+1,none⟩=some (.int .i64 q.kd)/\w'.cell? ⟨b,off+i * 6+2,none⟩=some (.int .i64 q.tx)/\w'.cell? ⟨b,off+i * 6+3,none⟩=some (.int .i64 q.at_)/\w'.cell? ⟨b,off+i * 6+4,none⟩=some (.int .i64 q.fl)/\w'.cell? ⟨b,off+i * 6+5,none⟩=some (.slice q.ra q.rn q.rc))/\AwIn Q w' q):=fun w' hb=>by
    have hSw:=HS.out w' hb
    obtain⟨b',off',ea',kk⟩:=hSw.at hq
    rw[ea]at ea'
    have e9:b=b'/\off=off':=by injection ea' with e9;injection e9 with e9 e8;exact⟨e9,e8⟩
    rw[e9.1,e9.2]
    exact⟨kk,hSw.2 q (List.mem_of_getElem? hq)⟩
   have hi':(i:Int)<(N:Int):=by omega
   have hin:=((HS.out wo hP.base).2 q (List.mem_of_getElem? hq))
   have HT:=hid hP
   have HI:=hid hin
   subst ea
   clear hP HS hq hiL HFin hin
   by_cases hw:(bits .and .i64 q.wh 1 == 1)=true
   ·have HA:=hid ((HT.out.symm).act (show 2 * i<=268435455 by omega) q HI.out)
    unfold Aw.val Aw.cells at HA
    clear HT HI
    go_wp2_with fail
    refine Calls.mono HA.out ?_
    rintro e w5 ⟨u,rfl,h5⟩
    have kt:=h5.total
    clear HA k0 k1 k2 k3 k4 k5
    by_cases ht:(30000:Int)<(tot:Int)
    ·have HD:=hid ((h5.drop.mono (show 2 * i+1<=2 * (i+1) by omega)).symm)
     clear h5
     go_wp2_with fail
     go_roundw
     case rel=>exact⟨i+1,_,_,_,by omega,by go_num,HD.out,by omega,by omega,by omega⟩
     case measure=>simp[intOf];omega
    ·have HB:=hid (h5.own (show nK<=67108864 by omega) (show cnt<=8388608 by omega) (show tot<=30512 by omega) (7 * (i:Int)) (by omega) (by omega))
     clear h5
     go_wp2_with fail
     refine Calls.mono HB.out ?_
     rintro e w6 ⟨rfl,tot6,nK6,hto6,hnk6,h6⟩
     have H6:=hid h6
     clear h6 HB kt
     go_wp2_with fail
     go_loopw [17] (fun iv wr=>∃(k cnt9 tot9 nK9:Nat),k<=1/\iv=.int .i64 (k:Int)/\Tri Q w0 y x (2 * i+1+k) bb cnt9 tot9 nK9 wr/\cnt9<=2 * i+1+k/\nK9<=30 * i+15+15 * k/\tot9<=30512+512 * k) (fun iv _=>1-(intOf iv).toNat)
     case atStart=>exact⟨0,_,_,_,Nat.zero_le _,rfl,H6.out,by omega,by omega,by omega⟩
     case round=>
      clear H6
      rename World=>wq
      obtain⟨k,cnt9,tot9,nK9,hk1,rfl,h9,hc9,hn9,ht9⟩:=hrel
      obtain⟨⟨m0,m1,m2,m3,m4,m5⟩,hin9⟩:=HQ.out wq h9.base
      by_cases hk0:k=0
      ·subst hk0
       by_cases e1:q.kd=1
       ·have HA2:=hid (h9.act (show 2 * i+1+0<=268435455 by omega) q hin9)
        unfold Aw.val Aw.cells at HA2
        have t1:(q.kd == 1)=true:=by simp[e1]
        clear h9 hin9 HQ e1
        go_wp2_with fail
        refine Calls.mono HA2.out ?_
        rintro e w7 ⟨u2,rfl,h7u⟩
        have HB2:=hid (h7u.own (show nK9<=67108864 by omega) (show cnt9<=8388608 by omega) (show tot9<=30512 by omega) (7 * (i:Int)+0+1) (by omega) (by omega))
        clear h7u HA2
        go_wp2_with fail
        refine Calls.mono HB2.out ?_
        rintro e w8 ⟨rfl,tot8,nK8,hto8,hnk8,h8⟩
        have H8:=hid h8
        clear h8 HB2
        go_wp2_with fail
        go_roundw
        case rel=>exact⟨1,_,_,_,Nat.le_refl _,rfl,H8.out,by omega,by omega,by omega⟩
        case measure=>simp[intOf]
       ·by_cases e2:q.kd=2
        ·have HA2:=hid (h9.act (show 2 * i+1+0<=268435455 by omega) q hin9)
         unfold Aw.val Aw.cells at HA2
         have n1:(q.kd == 1)=false:=by simpa using e1
         have t2:(q.kd == 2)=true:=by simp[e2]
         clear h9 hin9 HQ e1 e2
         go_wp2_with fail
         refine Calls.mono HA2.out ?_
         rintro e w7 ⟨u2,rfl,h7u⟩
         have HB2:=hid (h7u.own (show nK9<=67108864 by omega) (show cnt9<=8388608 by omega) (show tot9<=30512 by omega) (7 * (i:Int)+0+1) (by omega) (by omega))
         clear h7u HA2
         go_wp2_with fail
         refine Calls.mono HB2.out ?_
         rintro e w8 ⟨rfl,tot8,nK8,hto8,hnk8,h8⟩
         have H8:=hid h8
         clear h8 HB2
         go_wp2_with fail
         go_roundw
         case rel=>exact⟨1,_,_,_,Nat.le_refl _,rfl,H8.out,by omega,by omega,by omega⟩
         case measure=>simp[intOf]
        ·have n1:(q.kd == 1)=false:=by simpa using e1
         have n2:(q.kd == 2)=false:=by simpa using e2
         clear e1 e2 hin9 HQ
         have HT9:=hid ((h9.mono (show 2 * i+1+0<=2 * (i+1) by omega)).symm)
         clear h9
         by_cases h7:(i:Int) % 8=7
         ·go_wp2_with fail
          refine Calls.mono (HT9.out.holds (show nK9<=134217728 by omega)) ?_
          rintro e w8 ⟨rfl,h8⟩
          have H8:=hid h8
          clear h8 HT9
          go_wp2_with fail
          go_roundw
          case rel=>exact⟨i+1,_,_,_,by omega,by go_num,H8.out,by omega,by omega,by omega⟩
          case measure=>simp[intOf];omega
         ·go_wp2_with fail
          go_roundw
          case rel=>exact⟨i+1,_,_,_,by omega,by go_num,HT9.out,by omega,by omega,by omega⟩
          case measure=>simp[intOf];omega
      ·have hke:k=1:=by omega
       subst hke
       clear hin9 HQ hk0
       have HT9:=hid ((h9.mono (show 2 * i+1+1<=2 * (i+1) by omega)).symm)
       clear h9
       by_cases h7:(i:Int) % 8=7
       ·go_wp2_with fail
        refine Calls.mono (HT9.out.holds (show nK9<=134217728 by omega)) ?_
        rintro e w8 ⟨rfl,h8⟩
        have H8:=hid h8
        clear h8 HT9
        go_wp2_with fail
        go_roundw
        case rel=>exact⟨i+1,_,_,_,by omega,by go_num,H8.out,by omega,by omega,by omega⟩
        case measure=>simp[intOf];omega
       ·go_wp2_with fail
        go_roundw
        case rel=>exact⟨i+1,_,_,_,by omega,by go_num,HT9.out,by omega,by omega,by omega⟩
        case measure=>simp[intOf];omega
   ·have hw':(bits .and .i64 q.wh 1 == 1)=false:=by simpa using hw
    clear hw
    have HA:=hid ((HT.out).act (show 2 * i<=268435455 by omega) q HI.out)
    unfold Aw.val Aw.cells at HA
    clear HT HI
    go_wp2_with fail
    refine Calls.mono HA.out ?_
    rintro e w5 ⟨u,rfl,h5⟩
    have kt:=h5.total
    clear HA k0 k1 k2 k3 k4 k5
    by_cases ht:(30000:Int)<(tot:Int)
    ·have HD:=hid ((h5.drop.mono (show 2 * i+1<=2 * (i+1) by omega)))
     clear h5
     go_wp2_with fail
     go_roundw
     case rel=>exact⟨i+1,_,_,_,by omega,by go_num,HD.out,by omega,by omega,by omega⟩
     case measure=>simp[intOf];omega
    ·have HB:=hid (h5.own (show nK<=67108864 by omega) (show cnt<=8388608 by omega) (show tot<=30512 by omega) (7 * (i:Int)) (by omega) (by omega))
     clear h5
     go_wp2_with fail
     refine Calls.mono HB.out ?_
     rintro e w6 ⟨rfl,tot6,nK6,hto6,hnk6,h6⟩
     have H6:=hid h6
     clear h6 HB kt
     go_wp2_with fail
     go_loopw [17] (fun iv wr=>∃(k cnt9 tot9 nK9:Nat),k<=1/\iv=.int .i64 (k:Int)/\Tri Q w0 x y (2 * i+1+k) bb cnt9 tot9 nK9 wr/\cnt9<=2 * i+1+k/\nK9<=30 * i+15+15 * k/\tot9<=30512+512 * k) (fun iv _=>1-(intOf iv).toNat)
     case atStart=>exact⟨0,_,_,_,Nat.zero_le _,rfl,H6.out,by omega,by omega,by omega⟩
     case round=>
      clear H6
      rename World=>wq
      obtain⟨k,cnt9,tot9,nK9,hk1,rfl,h9,hc9,hn9,ht9⟩:=hrel
      obtain⟨⟨m0,m1,m2,m3,m4,m5⟩,hin9⟩:=HQ.out wq h9.base
      by_cases hk0:k=0
      ·subst hk0
       by_cases e1:q.kd=1
       ·have HA2:=hid (h9.act (show 2 * i+1+0<=268435455 by omega) q hin9)
        unfold Aw.val Aw.cells at HA2
        have t1:(q.kd == 1)=true:=by simp[e1]
        clear h9 hin9 HQ e1
        go_wp2_with fail
        refine Calls.mono HA2.out ?_
        rintro e w7 ⟨u2,rfl,h7u⟩
        have HB2:=hid (h7u.own (show nK9<=67108864 by omega) (show cnt9<=8388608 by omega) (show tot9<=30512 by omega) (7 * (i:Int)+0+1) (by omega) (by omega))
        clear h7u HA2
        go_wp2_with fail
        refine Calls.mono HB2.out ?_
        rintro e w8 ⟨rfl,tot8,nK8,hto8,hnk8,h8⟩
        have H8:=hid h8
        clear h8 HB2
        go_wp2_with fail
        go_roundw
        case rel=>exact⟨1,_,_,_,Nat.le_refl _,rfl,H8.out,by omega,by omega,by omega⟩
        case measure=>simp[intOf]
       ·by_cases e2:q.kd=2
        ·have HA2:=hid (h9.act (show 2 * i+1+0<=268435455 by omega) q hin9)
         unfold Aw.val Aw.cells at HA2
         have n1:(q.kd == 1)=false:=by simpa using e1
         have t2:(q.kd == 2)=true:=by simp[e2]
         clear h9 hin9 HQ e1 e2
         go_wp2_with fail
         refine Calls.mono HA2.out ?_
         rintro e w7 ⟨u2,rfl,h7u⟩
         have HB2:=hid (h7u.own (show nK9<=67108864 by omega) (show cnt9<=8388608 by omega) (show tot9<=30512 by omega) (7 * (i:Int)+0+1) (by omega) (by omega))
         clear h7u HA2
         go_wp2_with fail
         refine Calls.mono HB2.out ?_
         rintro e w8 ⟨rfl,tot8,nK8,hto8,hnk8,h8⟩
         have H8:=hid h8
         clear h8 HB2
         go_wp2_with fail
         go_roundw
         case rel=>exact⟨1,_,_,_,Nat.le_refl _,rfl,H8.out,by omega,by omega,by omega⟩
         case measure=>simp[intOf]
        ·have n1:(q.kd == 1)=false:=by simpa using e1
         have n2:(q.kd == 2)=false:=by simpa using e2
         clear e1 e2 hin9 HQ
         have HT9:=hid ((h9.mono (show 2 * i+1+0<=2 * (i+1) by omega)))
         clear h9
         by_cases h7:(i:Int) % 8=7
         ·go_wp2_with fail
          refine Calls.mono (HT9.out.holds (show nK9<=134217728 by omega)) ?_
          rintro e w8 ⟨rfl,h8⟩
          have H8:=hid h8
          clear h8 HT9
          go_wp2_with fail
          go_roundw
          case rel=>exact⟨i+1,_,_,_,by omega,by go_num,H8.out,by omega,by omega,by omega⟩
          case measure=>simp[intOf];omega
         ·go_wp2_with fail
          go_roundw
          case rel=>exact⟨i+1,_,_,_,by omega,by go_num,HT9.out,by omega,by omega,by omega⟩
          case measure=>simp[intOf];omega
      ·have hke:k=1:=by omega
       subst hke
       clear hin9 HQ hk0
       have HT9:=hid ((h9.mono (show 2 * i+1+1<=2 * (i+1) by omega)))
       clear h9
       by_cases h7:(i:Int) % 8=7
       ·go_wp2_with fail
        refine Calls.mono (HT9.out.holds (show nK9<=134217728 by omega)) ?_
        rintro e w8 ⟨rfl,h8⟩
        have H8:=hid h8
        clear h8 HT9
        go_wp2_with fail
        go_roundw
        case rel=>exact⟨i+1,_,_,_,by omega,by go_num,H8.out,by omega,by omega,by omega⟩
        case measure=>simp[intOf];omega
       ·go_wp2_with fail
        go_roundw
        case rel=>exact⟨i+1,_,_,_,by omega,by go_num,HT9.out,by omega,by omega,by omega⟩
        case measure=>simp[intOf];omega
  ·have hie:i=N:=by omega
   have hi':¬(i:Int)<(N:Int):=by omega
   subst hie
   have HF:=hid (hP.holds (show nK<=134217728 by omega))
   clear hP HS HNE
   go_wp2_with fail
   refine Calls.mono HF.out ?_
   rintro e w5 ⟨rfl,h5⟩
   have H5:=hid (HFin.out w5 h5.base)
   clear h5 HF HFin
   go_wp2
   exact H5.out
end Go.Proofs.YthfojpcibnfmgaaGreat
