import Derived.Test.YthfojpcibnfmgaaGreatV46
import Derived.Test.YthfojpcibnfmgaaGreatV11
import Derived.Test.YthfojpcibnfmgaaGreatV30
import Derived.Test.YthfojpcibnfmgaaGreatV44
set_option maxRecDepth 100000
set_option maxHeartbeats 16000000
namespace Go.Proofs.YthfojpcibnfmgaaGreat
variable {w w' w1:World}
variable {K bl e fr j k lo n nb p st:Nat}
variable {Ts:List Tn}
variable {Y Z:Nat->Prop}
variable {d:Pd}
variable {o:Option OT}
variable {xs:List Value}
open Go.RowKit Go.Deep
theorem Std.low{P P':Nat->Prop}{home:Nat->List Int}(h:Std w P p st nb fr bl n home Ts)(hP:∀k,P k->P' k):Std w P' p st nb fr bl n home Ts:=by
 obtain⟨j,c,Z,d,s,h1,h2,h3,h4,h5,h6⟩:=h
 exact⟨j,c,Z,d,s,h1,h2,h3,h4,hP _ h5,fun k q=>⟨hP k (h6 k q).1,(h6 k q).2⟩⟩
theorem AgP.low{home:Nat->List Int}{fuse:Int}{e:Ending}(h:AgP w1 nb fr bl lo home Ts fuse e w')(b:Below w.heap.size w w1):AgP w nb fr bl lo home Ts fuse e w':=by
 obtain⟨b1,p,n,h1,h2,h3⟩:=h
 have s1:=b.size
 refine⟨b.trans (b1.mono s1),p,n,h1,h2,h3.imp (fun⟨st,e1,e2⟩=>⟨st,e1,e2.low (fun k q=>Nat.le_trans s1 q)⟩) (fun⟨e0,e1,Z,d,q1,q2,q3,q4,q5⟩=>⟨e0,e1,Z,d,q1,q2,q3,q4,fun k q=>⟨Nat.le_trans s1 (q5 k q).1,(q5 k q).2⟩⟩)⟩
theorem anew_off{ob:Nat}{I:List Int}{home:Nat->List Int}(hc0:w.cell? ⟨ob,0,none⟩=some (.pointer (some ⟨p,0,none⟩)))(hol:ob<w.heap.size)(hD:Dk Z w p d.img d.puts d.fu d.off nb)(hoff:d.off=true)(hct:Cut d nb fr bl lo home Ts)(hI:∀x,x<nb->d.poss x (imgB I x))(hIl:I.length=512 * nb)(hIb:Pl.isB I)(hlo:16<=bl)(hfit:fr+bl<=nb)(hnb:nb<=524288)(re:Int)(ib ic:Nat)(hO:Own w ib (512 * nb) ic I)(fuse:Int)(v1 v2 v3:Value) :
  Calls Tryz.prog 20 #[.pointer (some ⟨ob,0,none⟩),.slice (some ⟨ib,0,none⟩) (512 * nb) ic,.agg #[.int .i64 (fr:Int),.int .i64 (bl:Int),.int .i64 re],.agg #[.int .i64 fuse,v1,v2,v3]] w (AgP w nb fr bl lo home Ts (fuse.tmod 16)):=by
 obtain⟨PO,hPO⟩:∃PO:Ending->World->Prop,PO=AgP w nb fr bl lo home Ts (fuse.tmod 16):=⟨_,rfl⟩
 rw[<- hPO]
 obtain⟨f,hf⟩:∃f,f=fuse.tmod 16:=⟨_,rfl⟩
 have hft:fuse.tmod 16=f:=hf.symm
 have hfb:-16<f/\f<16:=by rw[hf];exact⟨Int.lt_tmod_of_pos fuse (by decide),Int.tmod_lt_of_pos fuse (by decide)⟩
 have hfw:IntKind.i64.wrap f=f:=by rw[IntKind.wrap_i64];omega
 obtain⟨w0,hw0⟩:∃w0,w0=(w.alloc (.cells #[.int .i64 (fr:Int),.int .i64 (bl:Int),.int .i64 re] 23)).alloc (.cells #[.int .i64 fuse,v1,v2,v3] 50):=⟨_,rfl⟩
 have b0:Below w.heap.size w w0:=by rw[hw0];exact ((Below.refl _ _).alloc (Nat.le_refl _) _).alloc (by simp) _
 have HW:Hid ((w.alloc (.cells #[.int .i64 (fr:Int),.int .i64 (bl:Int),.int .i64 re] 23)).alloc (.cells #[.int .i64 fuse,v1,v2,v3] 50)=w0):=hw0.symm
 have z1:(w.alloc (.cells #[.int .i64 (fr:Int),.int .i64 (bl:Int),.int .i64 re] 23)).heap.size=w.heap.size+1:=by simp
 have z0:w0.heap.size=w.heap.size+2:=by rw[hw0];simp
 have hb1:w0.heap[w.heap.size]?=some (.cells #[.int .i64 (fr:Int),.int .i64 (bl:Int),.int .i64 re] 23 (0,0)):=by
  rw[hw0]
  exact (((Below.refl (w.alloc (.cells #[.int .i64 (fr:Int),.int .i64 (bl:Int),.int .i64 re] 23)).heap.size _).alloc (Nat.le_refl _) _).block w.heap.size (by simp)).trans (alloc_new rfl _)
 have hb2:w0.heap[w.heap.size+1]?=some (.cells #[.int .i64 fuse,v1,v2,v3] 50 (0,0)):=by rw[hw0];exact alloc_new z1 _
 have HL:Hid (w0.cell? ⟨ob,0,none⟩=some (.pointer (some ⟨p,0,none⟩))/\Calls Tryz.prog 54 #[.pointer (some ⟨p,0,none⟩)] w0 fun e w1=>e=.returned (.bool false)/\(w1.cell? ⟨w.heap.size,0,none⟩=some (.int .i64 (fr:Int))/\w1.cell? ⟨w.heap.size,1,none⟩=some (.int .i64 (bl:Int))/\w1.cell? ⟨w.heap.size,2,none⟩=some (.int .i64 re))/\w1.cell? ⟨w.heap.size+1,0,none⟩=some (.int .i64 fuse)/\Calls Tryz.prog 21 #[.slice (some ⟨ib,0,none⟩) (512 * nb) ic,.agg #[.int .i64 (fr:Int),.int .i64 (bl:Int),.int .i64 re],.int .i64 f] w1 fun e w'=>∃a b c,e=.returned (.tuple #[a,b,c])/\PO (.returned (.tuple #[a,b,c])) w'):=by
  refine⟨(b0.cell (p:=⟨ob,0,none⟩) hol).trans hc0,?_⟩
  refine Calls.mono (On_any (hD.keep (fun k _ hk=>b0.block k hk))) ?_
  rintro e w1 ⟨rfl,b1⟩
  have B1:Below w.heap.size w w1:=b0.trans (b1.mono (by omega))
  have h1:=(b1.block w.heap.size (by omega)).trans hb1
  have h2:=(b1.block (w.heap.size+1) (by omega)).trans hb2
  refine⟨by rw[hoff];rfl,⟨by simp[World.cell?,h1],by simp[World.cell?,h1],by simp[World.cell?,h1]⟩,by simp[World.cell?,h2],?_⟩
  refine Calls.mono (again_any hct hI hIl hIb hlo hfit hnb re ib ic (hO.keep (B1.block ib hO.lt)) f (by omega)) ?_
  intro e w' hA
  have hA2:=hA.low B1
  obtain⟨_,p',n,_,_,⟨st,rfl,_⟩ | ⟨_,rfl,_⟩⟩:=id hA2
  ·exact⟨_,_,_,rfl,by rw[hPO,<- hf];exact hA2⟩
  ·exact⟨_,_,_,rfl,by rw[hPO,<- hf];exact hA2⟩
 obtain⟨k0,hL⟩:=HL.out
 have HL2:=hid hL
 have kL:((w.alloc (.cells #[.int .i64 (fr:Int),.int .i64 (bl:Int),.int .i64 re] 23)).alloc (.cells #[.int .i64 fuse,v1,v2,v3] 50)).cell? ⟨ob,0,none⟩=some (.pointer (some ⟨p,0,none⟩)):=by rw[HW.out];exact k0
 clear hPO hw0 b0 hb1 hb2 hc0 hol hD hoff hct hI hIl hIb hO HL hL hf hfb z0 z1
 go_enter Tryz.func20,Tryz.ntmps20
 go_wp2_with fail
 rw[HW.out]
 refine Calls.mono HL2.out ?_
 rintro e w1 ⟨rfl,⟨c0,c1,c2⟩,cf,q⟩
 have H3:=hid q
 clear q HL2 k0 HW kL
 go_wp2_with fail
 refine Calls.mono H3.out ?_
 rintro e w' ⟨a,b,c,rfl,q⟩
 have FIN:=hid q
 clear q H3
 go_wp2
 go_ret3
 exact FIN.out
def AnP (Y:Nat->Prop) (w:World) (p nb fr bl:Nat) (home:Nat->List Int) (Ts:List Tn) (e:Ending) (w':World):Prop:=But Y w w'/\∃st,e=.returned (.tuple #[.pointer (some ⟨p,0,none⟩),.pointer (some ⟨st,0,none⟩),.bool true])/\Std w' (fun k=>Y k\/w.heap.size<=k) p st nb fr bl Ts.length home Ts
theorem anew_on{ob c:Nat}{s:Js}{home:Nat->List Int}(hS:StO Y w j c p st nb K fr bl d s o)(hon:On d s nb fr bl lo home Ts)(hc0:w.cell? ⟨ob,0,none⟩=some (.pointer (some ⟨p,0,none⟩)))(hol:ob<w.heap.size)(hnO:¬Y ob)(hyb:∀k,Y k->k<w.heap.size)(hlo:16<=bl)(hfit:fr+bl<=nb)(hnb:nb<=524288)(re:Int)(iv:Value)(v0 v1 v2 v3:Value) :
  Calls Tryz.prog 20 #[.pointer (some ⟨ob,0,none⟩),iv,.agg #[.int .i64 (fr:Int),.int .i64 (bl:Int),.int .i64 re],.agg #[v0,v1,v2,v3]] w (AnP Y w p nb fr bl home Ts):=by
 obtain⟨PO,hPO⟩:∃PO:Ending->World->Prop,PO=AnP Y w p nb fr bl home Ts:=⟨_,rfl⟩
 rw[<- hPO]
 obtain⟨w0,hw0⟩:∃w0,w0=(w.alloc (.cells #[.int .i64 (fr:Int),.int .i64 (bl:Int),.int .i64 re] 23)).alloc (.cells #[v0,v1,v2,v3] 50):=⟨_,rfl⟩
 have b0:Below w.heap.size w w0:=by rw[hw0];exact ((Below.refl _ _).alloc (Nat.le_refl _) _).alloc (by simp) _
 have HW:Hid ((w.alloc (.cells #[.int .i64 (fr:Int),.int .i64 (bl:Int),.int .i64 re] 23)).alloc (.cells #[v0,v1,v2,v3] 50)=w0):=hw0.symm
 have z0:w0.heap.size=w.heap.size+2:=by rw[hw0];simp
 have hb1:w0.heap[w.heap.size]?=some (.cells #[.int .i64 (fr:Int),.int .i64 (bl:Int),.int .i64 re] 23 (0,0)):=by
  rw[hw0]
  exact (((Below.refl (w.alloc (.cells #[.int .i64 (fr:Int),.int .i64 (bl:Int),.int .i64 re] 23)).heap.size _).alloc (Nat.le_refl _) _).block w.heap.size (by simp)).trans (alloc_new rfl _)
 have hS0:=hS.below b0
 have HL:Hid (w0.cell? ⟨ob,0,none⟩=some (.pointer (some ⟨p,0,none⟩))/\Calls Tryz.prog 54 #[.pointer (some ⟨p,0,none⟩)] w0 fun e w1=>e=.returned (.bool true)/\w1.cell? ⟨ob,0,none⟩=some (.pointer (some ⟨p,0,none⟩))/\Calls Tryz.prog 17 #[.pointer (some ⟨p,0,none⟩),.int .i64 (-1)] w1 fun e w2=>∃x,e=.returned (.int .i64 x)/\(w2.cell? ⟨ob,0,none⟩=some (.pointer (some ⟨p,0,none⟩))/\w2.cell? ⟨w.heap.size,0,none⟩=some (.int .i64 (fr:Int))/\w2.cell? ⟨w.heap.size,1,none⟩=some (.int .i64 (bl:Int))/\w2.cell? ⟨w.heap.size,2,none⟩=some (.int .i64 re))/\Calls Tryz.prog 37 #[.pointer (some ⟨p,0,none⟩),.agg #[.int .i64 (fr:Int),.int .i64 (bl:Int),.int .i64 re]] w2.drew fun e w3=>∃st',e=.returned (.tuple #[.pointer (some ⟨st',0,none⟩),.int .i64 0])/\(w3.cell? ⟨ob,0,none⟩=some (.pointer (some ⟨p,0,none⟩))/\w3.cell? ⟨w.heap.size,0,none⟩=some (.int .i64 (fr:Int))/\w3.cell? ⟨w.heap.size,1,none⟩=some (.int .i64 (bl:Int))/\w3.cell? ⟨w.heap.size,2,none⟩=some (.int .i64 re))/\PO (.returned (.tuple #[.pointer (some ⟨p,0,none⟩),.pointer (some ⟨st',0,none⟩),.bool true])) w3):=by
  refine⟨(b0.cell (p:=⟨ob,0,none⟩) hol).trans hc0,?_⟩
  refine Calls.mono hS0.don ?_
  rintro e w1 ⟨rfl,b1⟩
  have B1:Below w.heap.size w w1:=b0.trans (b1.mono (by omega))
  have s1:=b1.size
  refine⟨by rw[hon.on];rfl,(B1.cell (p:=⟨ob,0,none⟩) hol).trans hc0,?_⟩
  refine Calls.mono ((hS0.below b1).fuseF hon.on (-1) (by decide) (by decide)) ?_
  rintro e w2 ⟨x,Y2,rfl,q1,q2,q3,q4⟩
  have s2:=q4.size
  have h1:w2.heap[w.heap.size]?=some (.cells #[.int .i64 (fr:Int),.int .i64 (bl:Int),.int .i64 re] 23 (0,0)):=(q4.block w.heap.size (by omega) (fun e=>by have:=hyb _ e;omega)).trans ((b1.block w.heap.size (by omega)).trans hb1)
  have h0:=(q4.cell (p:=⟨ob,0,none⟩) (by show ob<_;omega) hnO).trans ((B1.cell (p:=⟨ob,0,none⟩) hol).trans hc0)
  refine⟨x,rfl,⟨h0,by simp[World.cell?,h1],by simp[World.cell?,h1],by simp[World.cell?,h1]⟩,?_⟩
  obtain⟨Z,hJ,hZ,_⟩:=q1.jq
  have hJd:=hJ.below (w':=w2.drew) (Below.refl _ _).drew
  refine Calls.mono (stands_any hJd.dk.1 (hon.fuse (-1)) rfl hJ.fits.1 hlo hfit hnb re) ?_
  rintro e w3 ⟨st',j',c',Z3,d3,s3,rfl,hst,J3,_,on3,S3,n3,z3,b3⟩
  have b3':But Z w2 w3:=(But.of_below (Below.refl _ _).drew).trans b3
  have sz3:=b3'.size
  have hZob:¬Z ob:=fun e=>hnO (q3 ob (by omega) (hZ ob e))
  have hZA:¬Z w.heap.size:=fun e=>by
   have:=q3 _ (by omega) (hZ _ e)
   have:=hyb _ this
   omega
  have h13:=(b3'.block w.heap.size (by omega) hZA).trans h1
  refine⟨st',rfl,⟨(b3'.cell (p:=⟨ob,0,none⟩) (by show ob<_;omega) hZob).trans h0,by simp[World.cell?,h13],by simp[World.cell?,h13],by simp[World.cell?,h13]⟩,?_⟩
  rw[hPO]
  have hY2:∀k,Y2 k->Y k\/w.heap.size<=k:=fun k e=>by
   rcases Nat.lt_or_ge k w1.heap.size with hk | hk
   ·exact .inl (q3 k hk e)
   ·exact .inr (by omega)
  refine⟨((But.of_below B1).comp q4 (fun k _ e=>e)).comp b3' (fun k hk e=>(hY2 k (hZ k e)).elim id (fun q=>by omega)),st',rfl,j',c',Z3,d3,s3,J3,on3,S3,n3,.inr ?_,fun k e=>⟨?_,(z3 k e).2⟩⟩
  ·have:w2.drew.heap.size=w2.heap.size:=rfl
   omega
  ·rcases (z3 k e).1 with q | q
   ·exact hY2 k (hZ k q)
   ·have:w2.drew.heap.size=w2.heap.size:=rfl
    exact .inr (by omega)
 obtain⟨k0,hL⟩:=HL.out
 have HL2:=hid hL
 have kL:((w.alloc (.cells #[.int .i64 (fr:Int),.int .i64 (bl:Int),.int .i64 re] 23)).alloc (.cells #[v0,v1,v2,v3] 50)).cell? ⟨ob,0,none⟩=some (.pointer (some ⟨p,0,none⟩)):=by rw[HW.out];exact k0
 clear hPO hw0 b0 hb1 hc0 hol hS hS0 hon HL hL z0 hnO hyb
 go_enter Tryz.func20,Tryz.ntmps20
 go_wp2_with fail
 rw[HW.out]
 refine Calls.mono HL2.out ?_
 rintro e w1 ⟨rfl,k1,q⟩
 have H3:=hid q
 clear q HL2 k0 HW kL
 go_wp2_with fail
 refine Calls.mono H3.out ?_
 rintro e w2 ⟨x,rfl,⟨c0,c1,c2,c3⟩,q⟩
 have H4:=hid q
 clear q H3 k1
 go_wp2_with fail
 refine Gz (S:=fun w'=>w'.cell? ⟨ob,0,none⟩=some (.pointer (some ⟨p,0,none⟩))/\w'.cell? ⟨w.heap.size,0,none⟩=some (.int .i64 (fr:Int))/\w'.cell? ⟨w.heap.size,1,none⟩=some (.int .i64 (bl:Int))/\w'.cell? ⟨w.heap.size,2,none⟩=some (.int .i64 re)) ⟨c0,c1,c2,c3⟩ (fun hSS=>?_)
 refine Ti 0 rfl ?_
 refine Ti 1 rfl ?_
 refine Ti 2 rfl ?_
 refine Ti 3 rfl ?_
 try simp only[Act.put,zA,zB,zC]
 refine Ti 4 rfl ?_
 try simp only[Act.put,zA,zB,zC]
 refine Ri 5 rfl (fun K9 hK9=>?_)
 go_simp
 go_at_call 37
 refine Calls.mono H4.out ?_
 rintro e w3 ⟨st',rfl,j0,q⟩
 have FIN:=hid q
 clear q H4
 refine hK9.out _ _ j0 (fun hSS=>?_)
 try simp only[Act.put,zA,zB,zC]
 refine Ti 6 rfl ?_
 refine Ti 7 rfl ?_
 refine Ti 8 rfl ?_
 refine Ti 9 rfl ?_
 try simp only[Act.put,zA,zB,zC]
 refine Ti 10 rfl ?_
 try simp only[Act.put,zA,zB,zC]
 refine Dn ?_
 obtain⟨j0,_,_,_⟩:=j0
 clear hSS c0 c1 c2 c3
 go_wp2
 go_ret3
 exact FIN.out
open Go.RowKit Go.Deep
def OpP2 (w:World) (nb fr bl:Nat) (e:Ending) (w':World):Prop :=
 ∃ob p st rb j c Z d s lv,e=.returned (.tuple #[.pointer (some ⟨ob,0,none⟩),.bool true])/\(w.heap.size<=ob/\w.heap.size<=st/\w.heap.size<=rb/\ob<w'.heap.size/\rb<ob/\st<rb)/\w'.heap[ob]?=some (.cells #[.pointer (some ⟨p,0,none⟩),.pointer (some ⟨st,0,none⟩),.pointer (some ⟨rb,0,none⟩),.slice none 0 0,.slice none 0 0,.slice none 0 0,.int .i64 0] 58 (0,0))/\Jq Z w' j c p 4 nb 0 fr bl d s/\d.fu=-1/\On d s nb fr bl 0 (⟨zeros (512 * nb),[],-1,false⟩:Pd).read []/\Stb w' st j (.pointer none)/\(¬Z st/\¬Z ob/\¬Z rb)/\(∀k,Z k->w.heap.size<=k/\k<rb)/\(R5b w' rb nb fr bl lv/\w'.ownsRow (rb+1) 9 1 lv nb (List.replicate nb (.string (strOfNums (zeros 512)))))/\Below w.heap.size w w'
theorem open5_two(a b c:Int)(fr bl re nb:Nat)(hfr:fr=into 10 a)(hbl:bl=16+into 16 b)(hre:re=1+into 9 c)(hnbe:nb=fr+bl+re)(w:World) :
  Calls Tryz.prog 12 #[.agg #[.int .i64 a,.int .i64 b,.int .i64 c]] w (OpP2 w nb fr bl):=by
 obtain⟨PO,hPO⟩:∃PO:Ending->World->Prop,PO=OpP2 w nb fr bl:=⟨_,rfl⟩
 rw[<- hPO]
 have l1:=into_lt a (show 0<10 by decide)
 have l2:=into_lt b (show 0<16 by decide)
 have l3:=into_lt c (show 0<9 by decide)
 obtain⟨w0,hw0⟩:∃w0,w0=w.alloc (.cells #[.int .i64 a,.int .i64 b,.int .i64 c] 23):=⟨_,rfl⟩
 have b0:Below w.heap.size w w0:=by rw[hw0];exact (Below.refl _ _).alloc (Nat.le_refl _) _
 have z0:w0.heap.size=w.heap.size+1:=by rw[hw0];simp
 have hblk:w0.heap[w.heap.size]?=some (.cells #[.int .i64 a,.int .i64 b,.int .i64 c] 23 (0,0)):=by rw[hw0];exact Array.getElem?_push_size
 have HC:Hid (∀w',Below w0.heap.size w0 w'->(w'.cell? ⟨w.heap.size,0,none⟩=some (.int .i64 a)/\w'.cell? ⟨w.heap.size,1,none⟩=some (.int .i64 b)/\w'.cell? ⟨w.heap.size,2,none⟩=some (.int .i64 c))/\(∀i,w'.frozen? ⟨w.heap.size,i,none⟩=false)):=fun w' b=>by
  have hb:=(b.block w.heap.size (by omega)).trans hblk
  exact⟨⟨by simp[World.cell?,hb],by simp[World.cell?,hb],by simp[World.cell?,hb]⟩,fun i=>by simp[World.frozen?,hb]⟩
 have HW:Hid (w.alloc (.cells #[.int .i64 a,.int .i64 b,.int .i64 c] 23)=w0):=hw0.symm
 have HR:=hid (right_any a b c w0)
 rw[show (16+(into 16 b:Int))=(bl:Int) by omega,show (1+(into 9 c:Int))=(re:Int) by omega,show ((into 10 a:Nat):Int)=(fr:Int) by omega]at HR
 have HST:Hid (∀w1,Below w0.heap.size w0 w1->∃w2,((w1.setCell ⟨w.heap.size,0,none⟩ (.int .i64 (fr:Int))).setCell ⟨w.heap.size,1,none⟩ (.int .i64 (bl:Int))).setCell ⟨w.heap.size,2,none⟩ (.int .i64 (re:Int))=w2/\Below w.heap.size w w2/\w.heap.size<w2.heap.size/\∀w',Below w2.heap.size w2 w'->(w'.cell? ⟨w.heap.size,0,none⟩=some (.int .i64 (fr:Int))/\w'.cell? ⟨w.heap.size,1,none⟩=some (.int .i64 (bl:Int))/\w'.cell? ⟨w.heap.size,2,none⟩=some (.int .i64 (re:Int)))):=fun w1 b1=>by
  have h1:=(b1.block w.heap.size (by omega)).trans hblk
  have s1:=b1.size
  have B1:Below w.heap.size w w1:=b0.trans (b1.mono (by omega))
  refine⟨_,rfl,((((But.of_below B1 (X:=fun k=>w.heap.size<=k)).setCell (p:=⟨w.heap.size,0,none⟩) (Nat.le_refl _) _).setCell (p:=⟨w.heap.size,1,none⟩) (Nat.le_refl _) _).setCell (p:=⟨w.heap.size,2,none⟩) (Nat.le_refl _) _).below (Nat.le_refl _) (fun k hk q=>by omega),by simp;omega,fun w' b'=>?_⟩
  have h2:(((w1.setCell ⟨w.heap.size,0,none⟩ (.int .i64 (fr:Int))).setCell ⟨w.heap.size,1,none⟩ (.int .i64 (bl:Int))).setCell ⟨w.heap.size,2,none⟩ (.int .i64 (re:Int))).heap[w.heap.size]?=some (.cells #[.int .i64 (fr:Int),.int .i64 (bl:Int),.int .i64 (re:Int)] 23 (0,0)):=by
   simp only[World.setCell,Array.getElem?_modify]
   rw[h1]
   simp
  have hb:=(b'.block w.heap.size (by simp;omega)).trans h2
  exact⟨by simp[World.cell?,hb],by simp[World.cell?,hb],by simp[World.cell?,hb]⟩
 have HFin:Hid (∀w2 w3 w4 w5 p st rb lv Z,Below w.heap.size w w2->Below w2.heap.size w2 w3->(∀k,Z k->w2.heap.size<=k/\k<w3.heap.size)->StP Z w3 p nb fr bl (⟨zeros (512 * nb),[],-1,false⟩:Pd).read [] (.returned (.tuple #[.pointer (some ⟨st,0,none⟩),.int .i64 0])) w4->rb=w4.heap.size->R5b w5 rb nb fr bl lv->w5.ownsRow (rb+1) 9 1 lv nb (List.replicate nb (.string (strOfNums (zeros 512))))->Below w4.heap.size w4 w5->PO (.returned (.tuple #[.pointer (some ⟨w5.heap.size,0,none⟩),.bool true])) (w5.alloc (.cells #[.pointer (some ⟨p,0,none⟩),.pointer (some ⟨st,0,none⟩),.pointer (some ⟨rb,0,none⟩),.slice none 0 0,.slice none 0 0,.slice none 0 0,.int .i64 0] 58))):=fun w2 w3 w4 w5 p st rb lv Z q1 q2 q3 q4 q5 q6 q7 q8=>by
  obtain⟨st',j,cc,Z',d',s',e1,e2,e3,e4,e5,e6,e7,e8,e9⟩:=q4
  have est:st'=st:=by injection e1 with e1;injection e1 with e1;simp at e1;exact e1.symm
  subst est
  rw[hPO]
  have s1:=q1.size
  have s2:=q2.size
  have s9:=e9.size
  have s8:=q8.size
  have hstl:=e6.lt
  have hrl:=q6.lt
  have B4:Below w.heap.size w w4:=((But.of_below (q1.trans (q2.mono s1)) (X:=fun k=>w.heap.size<=k)).comp e9 (fun k hk q=>by have:=q3 k q;omega)).below (Nat.le_refl _) (fun k hk q=>by omega)
  have b6:Below w5.heap.size w5 (w5.alloc (.cells #[.pointer (some ⟨p,0,none⟩),.pointer (some ⟨st',0,none⟩),.pointer (some ⟨rb,0,none⟩),.slice none 0 0,.slice none 0 0,.slice none 0 0,.int .i64 0] 58)):=(Below.refl _ _).alloc (Nat.le_refl _) _
  have b46:=q8.trans (b6.mono s8)
  have z6:(w5.alloc (.cells #[.pointer (some ⟨p,0,none⟩),.pointer (some ⟨st',0,none⟩),.pointer (some ⟨rb,0,none⟩),.slice none 0 0,.slice none 0 0,.slice none 0 0,.int .i64 0] 58)).heap.size=w5.heap.size+1:=by simp
  refine⟨w5.heap.size,p,st',rb,j,cc,Z',d',s',lv,rfl,⟨by omega,by omega,by omega,by omega,by omega,by omega⟩,Array.getElem?_push_size,e3.below b46,e4,e5,e6.keep (b46.block _ hstl),⟨e7,fun q=>by have:=(e8 _ q).2;omega,fun q=>by have:=(e8 _ q).2;omega⟩,fun k q=>?_,⟨(b6.block _ hrl).trans q6,owns_below q7 b6⟩,B4.trans (b46.mono (by omega))⟩
  obtain⟨r1,r2⟩:=e8 k q
  refine⟨?_,by omega⟩
  rcases r1 with r1 | r1
  ·have:=q3 k r1;omega
  ·omega
 have hnb:nb<=524288:=by omega
 have hlo:16<=bl:=by omega
 have hfit:fr+bl<=nb:=by omega
 have hsum:fr+bl+re<=524288:=by omega
 obtain⟨⟨c0,c1,c2⟩,hf0⟩:=HC.out w0 (Below.refl _ _)
 have HNB:=hid hnbe
 clear hw0 b0 hblk hPO hfr hbl hre hnbe l1 l2 l3
 go_enter Tryz.func12,Tryz.ntmps12
 go_wp2_with fail
 rw[HW.out]
 go_wp2_with fail
 refine Calls.mono HR.out ?_
 rintro e w1 ⟨rfl,b1⟩
 obtain⟨⟨d0,d1,d2⟩,hf1⟩:=HC.out w1 b1
 have g0:=hf1 0
 have g1:=hf1 1
 have g2:=hf1 2
 obtain⟨w2,hw2,B2,z2,HC2⟩:=HST.out w1 b1
 have HB2:=hid B2
 replace HC2:=hid HC2
 obtain⟨t0,t1,t2⟩:=HC2.out w2 (Below.refl _ _)
 clear HC HST HR HW b1 hf1 hf0 c0 c1 c2 B2
 go_wp2_with fail
 refine Calls.mono (laid_any fr bl re nb HNB.out hlo hnb w2) ?_
 rintro e w3 ⟨p,d,rfl,⟨Z,hD,hZ⟩,hft,hfu,hon,b3⟩
 obtain⟨k0,k1,k2⟩:=HC2.out w3 b3
 have HSt:=hid (stands_any hD hon hfu hft hlo hfit hnb (re:Int))
 have HX:=hid (And.intro b3 hZ)
 clear hD hft hfu hon b3 hZ d0 d1 d2 g0 g1 g2 hw2 t0 t1 t2
 go_wp2_with fail
 refine Calls.mono HSt.out ?_
 intro e w4 hS
 obtain⟨st,_,_,_,_,_,rfl,_⟩:=id hS
 have B24:Below w2.heap.size w2 w4:=by
  obtain⟨_,_,_,_,_,_,_,_,_,_,_,_,_,_,e9⟩:=id hS
  exact ((But.of_below HX.out.1 (X:=fun k=>w2.heap.size<=k)).comp e9 (fun k hk q=>(HX.out.2 k q).1)).below (Nat.le_refl _) (fun k hk q=>by omega)
 obtain⟨m0,m1,m2⟩:=HC2.out w4 B24
 have HS4:=hid hS
 have HB24:=hid B24
 clear hS HSt k0 k1 k2 B24
 go_wp2_with fail
 have HN:=hid (rnew5_any nb fr bl hnb w4)
 rw[show ((nb:Nat):Int)=(fr:Int)+(bl:Int)+(re:Int) by have:=HNB.out;omega]at HN
 refine Calls.mono HN.out ?_
 rintro e w5 ⟨lv,rfl,hr5,ho5,b5⟩
 have FIN:=hid (HFin.out w2 w3 w4 w5 p st w4.heap.size lv Z HB2.out HX.out.1 HX.out.2 HS4.out rfl hr5 ho5 b5)
 clear HN HFin HB2 HX HS4 hr5 ho5 b5 HB24 HC2 m0 m1 m2 HNB
 go_wp2
 exact FIN.out
open Go.RowKit Go.Deep
variable {Gm:Nat×Nat×Nat}
theorem zeros_cut(nb y:Nat)(hy:y<nb):((zeros (512 * nb)).drop (512 * y)).take 512=zeros 512:=by
 unfold zeros
 rw[List.drop_replicate,List.take_replicate]
 congr 1
 omega
theorem owns_bs{g B s:Nat}{v:Value}(h:w.ownsRow g e s v n xs)(hb:B<=g):w.ownsRow B e s v n xs:=by
 obtain⟨h1,h2⟩:=h
 exact⟨h1,h2.imp id fun⟨g',cap,cur,q1,q2,r⟩=>⟨g',cap,cur,q1,Nat.le_trans hb q2,r⟩⟩
theorem owns_lo{g s:Nat}{v:Value}(h:w.ownsRow g e s v n xs)(hk:v.ownBlock=some k):g<=k:=by
 rcases h.2 with ⟨q,_⟩ | ⟨g',cap,cur,q1,q2,r⟩
 ·rw[q]at hk;cases hk
 ·rw[q1]at hk
  have:g'=k:=by simpa [Value.ownBlock] using hk
  omega
def OpD (Gm:Nat×Nat×Nat) (w:World) (e:Ending) (w':World):Prop:=∃(ob:Nat) (B:Nat->Prop),e=.returned (.tuple #[.pointer (some ⟨ob,0,none⟩),.bool true])/\(∃Y v,Dq Y w' ob v/\Rl Gm 134217728 v/\(∀k,B k ↔ Ball Y ob v k)/\v.d.off=false)/\(∀k,B k->w.heap.size<=k)/\Below w.heap.size w w'
theorem open_dsk(a b c:Int)(w:World):Calls Tryz.prog 12 #[.agg #[.int .i64 a,.int .i64 b,.int .i64 c]] w (OpD (into 10 a+(16+into 16 b)+(1+into 9 c),into 10 a,16+into 16 b) w):=by
 have l1:=into_lt a (show 0<10 by decide)
 have l2:=into_lt b (show 0<16 by decide)
 have l3:=into_lt c (show 0<9 by decide)
 obtain⟨fr,hfr⟩:∃fr,fr=into 10 a:=⟨_,rfl⟩
 obtain⟨bl,hbl⟩:∃bl,bl=16+into 16 b:=⟨_,rfl⟩
 obtain⟨re,hre⟩:∃re,re=1+into 9 c:=⟨_,rfl⟩
 obtain⟨nb,hnb⟩:∃nb,nb=fr+bl+re:=⟨_,rfl⟩
 refine Calls.mono (open5_two a b c fr bl re nb hfr hbl hre hnb w) ?_
 rintro e w' ⟨ob,p,st,rb,j,cc,Z,d,s,lv,rfl,⟨p1,p2,p3,p4,p5,p6⟩,hob,hJ,hfu,hOn,hSt,⟨n1,n2,n3⟩,hZ,⟨hR5,hlv⟩,hb⟩
 have hbl1:16<=bl:=by omega
 have hfit:fr+bl<=nb:=by omega
 have hnb1:nb<=524288:=by omega
 have hlvk:∀k,lv.ownBlock=some k->rb<k:=fun k hk=>by have:=owns_lo hlv hk;omega
 have hlvs:∀k,lv.ownBlock=some k->k<w'.heap.size:=fun k hk=>by
  obtain⟨cur,hc⟩:=rowKind hlv hk
  exact (Array.getElem?_eq_some_iff.1 hc).1
 obtain⟨v,hv⟩:∃v:Dv,v=⟨p,st,j,cc,nb,fr,bl,0,d,s,none,⟨rb,lv,.slice none 0 0,0,List.replicate nb (strOfNums (zeros 512)),[],[],none,false⟩,.slice none 0 0,.slice none 0 0,.slice none 0 0,[]⟩:=⟨_,rfl⟩
 have hD:∀k,Dset ob v k->k=rb\/lv.ownBlock=some k\/k=ob:=fun k hk=>by
  rw[hv]at hk
  rcases hk with hk | hk | hk | hk | ⟨x,hx,_⟩
  ·rcases hk with hk | hk | hk | ⟨x,hx,_⟩ | ⟨q,hq,_⟩
   ·exact .inl hk
   ·exact .inr (.inl hk)
   ·cases hk
   ·cases hx
   ·cases hq
  ·rcases hk with hk | hk
   ·exact .inr (.inr hk)
   ·cases hk
  ·cases hk
  ·cases hk
  ·cases hx
 refine⟨ob,Ball (fun k=>Z k\/k=st) ob v,rfl,⟨fun k=>Z k\/k=st,v,⟨⟨?_,?_,?_⟩,?_,?_,?_⟩,?_,fun _=>Iff.rfl,by rw[hv];exact hOn.on⟩,?_,hb⟩
 ·rw[hv]
  exact⟨Z,hJ,fun k q=>.inl q,hSt,n1,.inr rfl⟩
 ·rw[hv]
  intro x hx
  cases hx
 ·rintro k (q | q)
  ·have:=hZ k q;omega
  ·omega
 ·rw[hv]
  refine⟨⟨⟨0,hob⟩,.inl rfl⟩,⟨hR5,?_,by simp,rowD.own ⟨rfl,.inl ⟨rfl,rfl⟩⟩,rfl,(fun i x ps h1=>by simp at h1),(fun q h1=>by cases h1),fun q h1=>by cases h1⟩,⟨rfl,.inl ⟨rfl,rfl⟩⟩,⟨rfl,.inl ⟨rfl,rfl⟩⟩,fun x hx=>by cases hx⟩
  have:=owns_bs hlv (Nat.zero_le _)
  simpa using this
 ·rintro k hk (q | q)
  ·have:=hZ k q
   rcases hD k hk with e | e | e
   ·omega
   ·have:=hlvk k e;omega
   ·omega
  ·rcases hD k hk with e | e | e
   ·omega
   ·have:=hlvk k e;omega
   ·omega
 ·rw[hv]
  intro x hx
  cases hx
 ·rw[hv]
  have hpu:=hOn.puts hbl1 hfit hnb1
  refine⟨hOn.on.symm,fun _=>⟨0,_,[],hOn,⟨0,0,rfl,rfl,rfl,Nat.le_refl _,fun k _ k2 y hy F hF=>?_⟩,Nat.zero_le _⟩,(fun e=>by rw[hOn.on]at e;cases e),by simp only;omega,rfl,(fun q t h1=>by cases h1),Nat.zero_le _,⟨by show 0+134217728<=134217728;omega,fun ps hp=>by cases hp⟩,Nat.zero_le _,hbl1,hfit,hnb1,by simp only;rw[hnb,hfr,hbl,hre],rfl⟩
  have hyn:=hy.1
  have hk0:k=0:=by simpa using k2
  subst hk0
  simp only[List.getElem?_replicate,hyn,if_true,Option.some.injEq]at hF
  show strOfNums (((zeros (512 * nb)).drop (512 * y)).take 512)=holdsU (y:Int) F []
  rw[zeros_cut nb y hyn,hF]
  rfl
 ·rintro k ((q | q) | q | ⟨x,hx,_⟩)
  ·have:=hZ k q;omega
  ·omega
  ·rcases hD k q with e | e | e
   ·omega
   ·have:=hlvk k e;omega
   ·omega
  ·rw[hv]at hx;cases hx
end Go.Proofs.YthfojpcibnfmgaaGreat
