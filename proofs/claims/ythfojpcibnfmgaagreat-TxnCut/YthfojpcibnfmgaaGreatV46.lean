import Derived.Test.YthfojpcibnfmgaaGreatV45
import Derived.Test.YthfojpcibnfmgaaGreatV26
import Derived.Test.YthfojpcibnfmgaaGreatV33
import Derived.Test.YthfojpcibnfmgaaGreatV38
import Derived.Test.YthfojpcibnfmgaaGreatV30
set_option maxRecDepth 100000
set_option maxHeartbeats 16000000
namespace Go.Proofs.YthfojpcibnfmgaaGreat
variable {K bl fr j lo m n nb p:Nat}
variable {ks:List Int}
variable {w w':World}
variable {a:Option Addr}
variable {Z:Nat->Prop}
variable {d:Pd}
variable {fu:Int}
variable {Ts:List Tn}
open Go.RowKit
theorem GoodK.more(h:GoodK n ks)(hm:n<=m):GoodK m ks:=fun i hi=>⟨(h i hi).1,by have:=(h i hi).2;omega⟩
theorem GoodK.snoc(h:GoodK n ks):GoodK (n+1) (ks++[(n:Int)]):=fun i hi=>by
 simp at hi
 by_cases hl:i<ks.length
 ·have e:∀j,j<ks.length->(ks++[(n:Int)]).getD j 0=ks.getD j 0:=fun j hj=>by
   rw[List.getD_eq_getElem?_getD,List.getD_eq_getElem?_getD,List.getElem?_append_left hj]
  obtain⟨h1,h2⟩:=h i hl
  rw[e i hl]
  refine⟨?_,by omega⟩
  unfold leastK at h1 ⊢
  split
  ·rename_i q
   rw[if_pos q]at h1
   exact h1
  ·rename_i q
   rw[if_neg q]at h1
   rw[e (i-1) (by omega)]
   exact h1
 ·have hie:i=ks.length:=by omega
  subst hie
  have e:(ks++[(n:Int)]).getD ks.length 0=(n:Int):=by rw[List.getD_eq_getElem?_getD,List.getElem?_append_right (Nat.le_refl _)];simp
  rw[e]
  refine⟨?_,by omega⟩
  unfold leastK
  split
  ·omega
  ·rename_i q
   have hj:ks.length-1<ks.length:=by omega
   rw[List.getD_eq_getElem?_getD,List.getElem?_append_left hj,<- List.getD_eq_getElem?_getD]
   have:=(h _ hj).2
   omega
def RdB (w:World) (a:Option Addr) (n:Nat):Prop:=n=0\/∃b off,a=some ⟨b,off,none⟩/\b<w.heap.size/\∀i,i<n->∃x,w.cell? ⟨b,off+i,none⟩=some (.bool x)
theorem RdB.below(h:RdB w a n)(hb:Below w.heap.size w w'):RdB w' a n:=by
 rcases h with h | ⟨b,off,e,hl,h⟩
 ·exact .inl h
 ·refine .inr ⟨b,off,e,Nat.lt_of_lt_of_le hl hb.size,fun i hi=>?_⟩
  obtain⟨x,hx⟩:=h i hi
  exact⟨x,(hb.cell (p:=⟨b,off+i,none⟩) hl).trans hx⟩
theorem left_any(hD:Dk Z w p d.img d.puts d.fu d.off nb)(hf:d.Fits nb)(hpl:d.puts.length<=1073741824)(ka:Option Addr)(kn kc:Nat)(hkn:kn<=1073741824)(hK:RdB w ka kn) :
  Calls Tryz.prog 19 #[.pointer (some ⟨p,0,none⟩),.slice ka kn kc] w fun e w'=>∃ib ic I,e=.returned (.slice (some ⟨ib,0,none⟩) (512 * nb) ic)/\w.heap.size<=ib/\Own w' ib (512 * nb) ic I/\Pl.isB I/\I.length=512 * nb/\(∀x,d.poss x (imgB I x))/\Below w.heap.size w w':=by
 obtain⟨i3,hi3,hz3,hs3,hb3⟩:=info_parts info3
 obtain⟨PO,hPO⟩:∃PO:Ending->World->Prop,PO=fun e w'=>∃ib ic I,e=.returned (.slice (some ⟨ib,0,none⟩) (512 * nb) ic)/\w.heap.size<=ib/\Own w' ib (512 * nb) ic I/\Pl.isB I/\I.length=512 * nb/\(∀x,d.poss x (imgB I x))/\Below w.heap.size w w':=⟨_,rfl⟩
 rw[<- hPO]
 have HP:=hid (Pending_any hD hpl)
 obtain⟨n,hn⟩:∃n,n=d.puts.length:=⟨_,rfl⟩
 have HCr:Hid (∀(w1 w2:World) (a:Option Addr) (m cp:Nat) (ks:List Int),Below w.heap.size w w1->Below w1.heap.size w1 w2->w2.ownsRow w1.heap.size 3 1 (.slice a m cp) m (ks.map (Value.int .i64))->m<=n->GoodK n ks->Calls Tryz.prog 56 #[.pointer (some ⟨p,0,none⟩),.slice a m cp] w2 fun e w3=>∃sv,e=.returned (.tuple #[sv,.int .i64 0])/\PO (.returned sv) w3):=fun w1 w2 a m cp ks b1 b2 q1 q2 q3=>by
  have s1:=b1.size
  have bb:Below w.heap.size w w2:=b1.trans (b2.mono s1)
  have hks:∀k∈ks,0<=k/\k<(d.puts.length:Int):=fun k hk=>by
   obtain⟨i,hi⟩:=List.mem_iff_getElem?.1 hk
   have hil:=(List.getElem?_eq_some_iff.1 hi).1
   have e:ks.getD i 0=k:=by rw[List.getD_eq_getElem?_getD,hi];rfl
   have h1:=good_lo q3 i hil
   have h2:=(q3 i hil).2
   rw[e]at h1 h2
   rw[<- hn]
   exact⟨h1,h2⟩
  have hpz:placesC d.puts.length ks=0:=by unfold placesC;rw[<- hn,if_pos q3]
  refine Calls.mono (Crash_any (hD.keep (fun k _ hk=>bb.block k hk)) hpl a m cp ks (by omega) (rdi_of_owns q1)) ?_
  rintro e w3 ⟨b3,hcase⟩
  rcases hcase with ⟨h1,_⟩ | ⟨_,ib,ic,rfl,hib,hown,hisb⟩
  ·exact absurd hpz h1
  ·have s2:=bb.size
   have b4:Below w.heap.size w w3:=bb.trans (b3.mono s2)
   refine⟨_,rfl,?_⟩
   rw[hPO]
   rw[hf.1]at hown ⊢
   exact⟨ib,ic,crashZ d.img d.puts ks,rfl,by omega,hown,hisb,(Pd.poss_crash hf ks hks 0).2,fun x=>(Pd.poss_crash hf ks hks x).1,b4⟩
 have HKB:=hid (fun w1 (b1:Below w.heap.size w w1)=>hK.below b1)
 rw[<- hn]at HP
 have hn2:n<=1073741824:=by omega
 clear hD hf hpl hn hK hPO
 go_enter Tryz.func19,Tryz.ntmps19
 go_wp2_with fail
 refine Calls.mono HP.out ?_
 rintro e w1 ⟨g1,rfl,hg1,_,b1⟩
 have HKR:=hid (HKB.out w1 b1)
 have HC1:Hid (∀(w2:World) (a:Option Addr) (m cp:Nat) (ks:List Int),Below w1.heap.size w1 w2->w2.ownsRow w1.heap.size 3 1 (.slice a m cp) m (ks.map (Value.int .i64))->m<=n->GoodK n ks->Calls Tryz.prog 56 #[.pointer (some ⟨p,0,none⟩),.slice a m cp] w2 fun e w3=>∃sv,e=.returned (.tuple #[sv,.int .i64 0])/\PO (.returned sv) w3):=fun w2 a m cp ks=>HCr.out w1 w2 a m cp ks b1
 clear HP HCr HKB b1 hg1
 go_wp2_with fail
 go_loopw [8,7] (fun iv ov wr=>∃(i m cap:Nat) (a:Option Addr) (ks:List Int),i<=n/\m<=i/\iv=.int .i64 (i:Int)/\ov=.slice a m cap/\wr.ownsRow w1.heap.size 3 1 (.slice a m cap) m (ks.map (Value.int .i64))/\GoodK i ks/\Below w1.heap.size w1 wr) (fun iv _ _=>n-(intOf iv).toNat)
 case atStart=>exact⟨0,0,0,none,[],Nat.zero_le _,Nat.le_refl _,rfl,rfl,World.ownsRow_nil _ _ _ _,(fun i hi=>by simp at hi),Below.refl _ _⟩
 case round=>
  obtain⟨i,m,cap,a,ks,hin,hmi,rfl,rfl,hrow,hgk,hbt⟩:=hrel
  by_cases hi:i<n/\0<kn
  ·have hi':(i:Int)<(n:Int):=by omega
   have hk':(0:Int)<(kn:Int):=by omega
   obtain⟨b,off,rfl,hbl,hcs⟩:=(HKR.out.below hbt).resolve_left (by omega)
   obtain⟨x,hx⟩:=hcs (i % kn) (Nat.mod_lt _ hi.2)
   have hrem:((i:Int)).tmod (kn:Int)=((i % kn:Nat):Int):=by rw[Int.tmod_eq_emod_of_nonneg (by omega)];omega
   have hk0:¬(kn:Int)=0:=by omega
   have hml:i % kn<kn:=Nat.mod_lt _ hi.2
   obtain⟨r,hr⟩:∃r,r=i % kn:=⟨_,rfl⟩
   rw[<- hr]at hx hrem hml
   have hrl:(r:Int)<(kn:Int):=by omega
   have HQ:=hid (And.intro hrow (And.intro hgk hbt))
   clear hrow hgk hbt hcs hr
   have hsw:=HQ.out.2.2.size
   have HRow:=hid (owns_below HQ.out.1 ((Below.refl wr.heap.size wr).alloc (Nat.le_refl _) (.cells #[.int .i64 (i:Int)] 3)))
   have HFA:Hid (∀(g4 cap4:Nat) (w6:World),w6.ownsRow w1.heap.size 3 1 (.slice (some ⟨g4,0,none⟩) (m+1) cap4) (m+1) (ks.map (Value.int .i64)++[.int .i64 (i:Int)])->(wr.alloc (.cells #[.int .i64 (i:Int)] 3)).grownBy w6 (Value.slice a m cap).ownBlock->w6.ownsRow w1.heap.size 3 1 (.slice (some ⟨g4,0,none⟩) (m+1) cap4) (m+1) ((ks++[(i:Int)]).map (Value.int .i64))/\GoodK (i+1) (ks++[(i:Int)])/\Below w1.heap.size w1 w6):=fun g4 cap4 w6 h1 h2=>by
    refine⟨by rw[List.map_append];exact h1,HQ.out.2.1.snoc,?_⟩
    have bb:But (fun k=>w1.heap.size<=k) w1 w6:=((But.of_below HQ.out.2.2 (X:=fun k=>w1.heap.size<=k)).alloc (.cells #[.int .i64 (i:Int)] 3)).of_grown h2 (fun x e _=>(World.ownsRow.lt HQ.out.1 x e).1)
    exact bb.below (Nat.le_refl _) (fun k hk q=>by omega)
   cases x with
   | true=>
    go_wp2_with (at_builtin;refine wpList_append_lies _ rfl _ _ _ rfl w1.heap.size 3 i3 (.int .i64 0) 1 8 Tryz.underlying37 hi3 hz3 hs3 hb3 rfl (by decide) _ m _ rfl (by exact HRow.out) ⟨wr.heap.size,0,none⟩ 1 1 [.int .i64 (i:Int)] rfl rfl (by exact news1R wr _ _) (by intro u hu;simp at hu;subst hu;rfl) (by decide) (by unfold maxLen;omega) (by omega) (by simp;omega) (wr.heap.size+1) (by simp) ?_;intro g4 cap4 w6 ho4 hg4 _ _;have FA:Hid (w6.ownsRow w1.heap.size 3 1 (.slice (some ⟨g4,0,none⟩) (m+1) cap4) (m+1) ((ks++[(i:Int)]).map (Value.int .i64))/\GoodK (i+1) (ks++[(i:Int)])/\Below w1.heap.size w1 w6):=HFA.out g4 cap4 w6 ho4 hg4;clear ho4 hg4)
    refine⟨⟨i+1,m+1,cap4,some ⟨g4,0,none⟩,ks++[(i:Int)],by omega,by omega,by go_num,rfl,FA.out.1,FA.out.2.1,FA.out.2.2⟩,?_⟩
    simp[intOf]
    omega
   | false=>
    go_wp2_with fail
    refine⟨⟨i+1,m,cap,a,ks,by omega,by omega,by go_num,rfl,HQ.out.1,HQ.out.2.1.more (by omega),HQ.out.2.2⟩,?_⟩
    simp[intOf]
    omega
  ·have HC2:=hid (HC1.out wr a m cap ks hbt hrow (by omega) (hgk.more hin))
   clear HC1 hrow hgk hbt HKR
   by_cases hi9:i<n
   ·have hi':(i:Int)<(n:Int):=by omega
    have hk0:kn=0:=by omega
    subst hk0
    go_wp2_with fail
    refine Calls.mono HC2.out ?_
    rintro e w3 ⟨sv,rfl,q⟩
    have FIN:=hid q
    clear q HC2
    go_wp2
    exact FIN.out
   ·have hi':¬(i:Int)<(n:Int):=by omega
    go_wp2_with fail
    refine Calls.mono HC2.out ?_
    rintro e w3 ⟨sv,rfl,q⟩
    have FIN:=hid q
    clear q HC2
    go_wp2
    exact FIN.out
open Go.RowKit Go.Deep
def StC (Z:Nat->Prop) (w:World) (p nb fr bl lo:Nat) (home:Nat->List Int) (Ts:List Tn) (fu:Int) (e:Ending) (w':World):Prop :=
 But Z w w'/\∃n,lo<=n/\n<=Ts.length /\
  ((∃st j c Z' d' s',e=.returned (.tuple #[.pointer (some ⟨st,0,none⟩),.int .i64 0])/\w.heap.size<=st/\Jq Z' w' j c p 4 nb 0 fr bl d' s'/\On d' s' nb fr bl n home (Ts.take n)/\Stb w' st j (.pointer none)/\¬Z' st/\∀k,Z' k->(Z k\/w.heap.size<=k)/\k<w'.heap.size) \/
  (fu≠-1/\e=.returned (.tuple #[.pointer none,.int .i64 24])/\∃Z' d',Dk Z' w' p d'.img d'.puts d'.fu d'.off nb/\d'.off=true/\d'.Fits nb/\Cut d' nb fr bl n home (Ts.take n)/\∀k,Z' k->(Z k\/w.heap.size<=k)/\k<w'.heap.size))
theorem stands_cut{I:List Int}{home:Nat->List Int}(hD:Dk Z w p I [] fu false nb)(hct:Cut d nb fr bl lo home Ts)(hI:∀x,x<nb->d.poss x (imgB I x))(hf:(⟨I,[],fu,false⟩:Pd).Fits nb)(hlo:16<=bl)(hfit:fr+bl<=nb)(hnb:nb<=524288)(re:Int) :
  Calls Tryz.prog 37 #[.pointer (some ⟨p,0,none⟩),.agg #[.int .i64 (fr:Int),.int .i64 (bl:Int),.int .i64 re]] w (StC Z w p nb fr bl lo home Ts fu):=by
 obtain⟨PO,hPO⟩:∃PO:Ending->World->Prop,PO=StC Z w p nb fr bl lo home Ts fu:=⟨_,rfl⟩
 rw[<- hPO]
 obtain⟨w0,hw0⟩:∃w0,w0=w.alloc (.cells #[.int .i64 (fr:Int),.int .i64 (bl:Int),.int .i64 re] 23):=⟨_,rfl⟩
 have b0:Below w.heap.size w w0:=by rw[hw0];exact (Below.refl _ _).alloc (Nat.le_refl _) _
 have z0:w0.heap.size=w.heap.size+1:=by rw[hw0];simp
 have hblk:w0.heap[w.heap.size]?=some (.cells #[.int .i64 (fr:Int),.int .i64 (bl:Int),.int .i64 re] 23 (0,0)):=by rw[hw0];exact Array.getElem?_push_size
 have HC:Hid (∀w',Below w0.heap.size w0 w'->w'.cell? ⟨w.heap.size,0,none⟩=some (.int .i64 (fr:Int))/\w'.cell? ⟨w.heap.size,1,none⟩=some (.int .i64 (bl:Int))):=fun w' b=>by
  have hb:=(b.block w.heap.size (by omega)).trans hblk
  exact⟨by simp[World.cell?,hb],by simp[World.cell?,hb]⟩
 have HW:Hid (w.alloc (.cells #[.int .i64 (fr:Int),.int .i64 (bl:Int),.int .i64 re] 23)=w0):=hw0.symm
 have HF:Hid (∀w1 c,Below w0.heap.size w0 w1->Cst (fun k=>w0.heap.size<=k) w1 c p 4 0 0 []->Calls Tryz.prog 74 #[.pointer (some ⟨c,0,none⟩),.int .i64 (fr:Int),.int .i64 (bl:Int)] w1 fun e w2=>(∃j,e=.returned (.tuple #[.pointer (some ⟨j,0,none⟩),.int .i64 0])/\Calls Tryz.prog 10 #[.pointer (some ⟨j,0,none⟩)] w2 fun e w'=>∃st,e=.returned (.tuple #[.pointer (some ⟨st,0,none⟩),.int .i64 0])/\PO e w')\/(e=.returned (.tuple #[.pointer none,.int .i64 24])/\PO e w2)):=fun w1 c b1 hCs=>by
  have s1:=b1.size
  have hD0:Dk (fun k=>Z k/\k<w.heap.size) w0 p I [] fu false nb:=hD.cut.keep (fun k q hk=>b0.block k q.2)
  have hq:=Cq.new' (d:=⟨I,[],fu,false⟩) hD0 hCs b1
  refine Calls.mono (Open_any hq (fr:Int) (bl:Int) (by simp;omega)) ?_
  intro e w2 hO
  obtain⟨b2,jv,code,rfl,n,Z2,d2,hn1,hn2,g2,hcase⟩:=OpenP.cut hO hct hlo hfit hnb hI hf
  have q2:=b2.size
  have B1:Below w.heap.size w w1:=b0.trans (b1.mono (by omega))
  have bb:But Z w w2:=(But.of_below B1 (X:=Z)).comp b2 (fun k hk q=>by
   rcases q.1 with q | q
   ·exact q.1
   ·omega)
  have hZ2:∀k,Z2 k->k<w2.heap.size->Z k\/w.heap.size<=k:=fun k q _=>by
   rcases Nat.lt_or_ge k w.heap.size with hk | hk
   ·have:=(g2 k (by omega) q).1
    rcases this with r | r
    ·exact .inl r.1
    ·omega
   ·exact .inr hk
  rcases hcase with ⟨rfl,hfu,rfl,hC2,ho2,hct2⟩ | ⟨rfl,j,s2,rfl,hj2,J2,on2⟩
  ·refine .inr ⟨rfl,?_⟩
   rw[hPO]
   exact⟨bb,n,hn1,hn2,.inr ⟨hfu,rfl,fun k=>Z2 k/\k<w2.heap.size,d2,hC2.cut.dk,ho2,hC2.fits.1,hct2,fun k q=>⟨hZ2 k q.1 q.2,q.2⟩⟩⟩
  ·refine .inl ⟨j,rfl,?_⟩
   refine Calls.mono (topen_any J2.cut on2.on) ?_
   rintro e w3 ⟨st,rfl,h1,h2,h3⟩
   refine⟨st,rfl,?_⟩
   rw[hPO]
   have q3:=h3.size
   refine⟨bb.comp (But.of_below h3 (X:=fun _=>False)) (fun _ _ q=>q.elim),n,hn1,hn2,.inl ⟨st,j,c,fun k=>Z2 k/\k<w2.heap.size,d2,s2,rfl,by omega,J2.cut.below h3,on2,h2,(fun e=>by omega),fun k q=>⟨hZ2 k q.1 q.2,by omega⟩⟩⟩
 clear hPO hw0 b0 hblk hD hct hI hf
 go_enter Tryz.func37,Tryz.ntmps37
 go_wp2_with fail
 rw[HW.out]
 refine Calls.mono (CNew_ok (w:=w0) p 4 (by omega) (by omega)) ?_
 rintro e w1 ⟨c,rfl,hc,hCs,b1⟩
 have HF1:=hid (HF.out w1 c b1 hCs)
 obtain⟨d0,d1⟩:=HC.out w1 b1
 clear HF HC hc hCs b1 HW
 go_wp2_with fail
 refine Calls.mono HF1.out ?_
 rintro e w2 (⟨j,rfl,hT⟩ | ⟨rfl,q⟩)
 ·have HT:=hid hT
  clear hT HF1
  go_wp2_with fail
  refine Calls.mono HT.out ?_
  rintro e w3 ⟨st,rfl,q⟩
  have FIN:=hid q
  clear q HT
  go_wp2
  exact FIN.out
 ·have FIN:=hid q
  clear q HF1
  go_wp2
  exact FIN.out
theorem Jq.fuseF{c room:Nat}{s:Js}(h:Jq Z w j c p room nb K fr bl d s)(hon:d.off=false)(f:Int)(hf1:-1<=f)(hf2:f<=9223372036854775807) :
  Calls Tryz.prog 17 #[.pointer (some ⟨p,0,none⟩),.int .i64 f] w fun e w'=>(∃v,e=.returned (.int .i64 v))/\(∃Z',Jq Z' w' j c p room nb K fr bl ⟨d.img,d.puts,f,d.off⟩ s/\Gr Z Z' w)/\But Z w w':=by
 obtain⟨Zc,m,n,D,a,h1⟩:=h
 refine Calls.mono (h1.cq.fuseF hon f hf1 hf2) ?_
 rintro e w' ⟨q0,q⟩
 obtain⟨q1,q2⟩:=h1.lift q
 exact⟨q0,q1,q2⟩
def Std (w:World) (P:Nat->Prop) (p st nb fr bl n:Nat) (home:Nat->List Int) (Ts:List Tn):Prop:=∃j c Z d s,Jq Z w j c p 4 nb 0 fr bl d s/\On d s nb fr bl n home Ts/\Stb w st j (.pointer none)/\¬Z st/\P st/\∀k,Z k->P k/\k<w.heap.size
def Offd (w:World) (B p nb fr bl n:Nat) (home:Nat->List Int) (Ts:List Tn):Prop:=∃Z d,Dk Z w p d.img d.puts d.fu d.off nb/\d.off=true/\d.Fits nb/\Cut d nb fr bl n home Ts/\∀k,Z k->B<=k/\k<w.heap.size
def AgP (w:World) (nb fr bl lo:Nat) (home:Nat->List Int) (Ts:List Tn) (fuse:Int) (e:Ending) (w':World):Prop :=
 Below w.heap.size w w'/\∃p n,lo<=n/\n<=Ts.length/\((∃st,e=.returned (.tuple #[.pointer (some ⟨p,0,none⟩),.pointer (some ⟨st,0,none⟩),.bool true])/\Std w' (fun k=>w.heap.size<=k) p st nb fr bl n home (Ts.take n))\/(0<=fuse/\e=.returned (.tuple #[.pointer (some ⟨p,0,none⟩),.pointer none,.bool true])/\Offd w' w.heap.size p nb fr bl n home (Ts.take n)))
theorem again_any{I:List Int}{home:Nat->List Int}(hct:Cut d nb fr bl lo home Ts)(hI:∀x,x<nb->d.poss x (imgB I x))(hIl:I.length=512 * nb)(hIb:Pl.isB I)(hlo:16<=bl)(hfit:fr+bl<=nb)(hnb:nb<=524288)(re:Int)(ib ic:Nat)(hO:Own w ib (512 * nb) ic I)(fuse:Int)(hfu:fuse<=9223372036854775807) :
  Calls Tryz.prog 21 #[.slice (some ⟨ib,0,none⟩) (512 * nb) ic,.agg #[.int .i64 (fr:Int),.int .i64 (bl:Int),.int .i64 re],.int .i64 fuse] w (AgP w nb fr bl lo home Ts fuse):=by
 obtain⟨PO,hPO⟩:∃PO:Ending->World->Prop,PO=AgP w nb fr bl lo home Ts fuse:=⟨_,rfl⟩
 rw[<- hPO]
 obtain⟨w0,hw0⟩:∃w0,w0=w.alloc (.cells #[.int .i64 (fr:Int),.int .i64 (bl:Int),.int .i64 re] 23):=⟨_,rfl⟩
 have b0:Below w.heap.size w w0:=by rw[hw0];exact (Below.refl _ _).alloc (Nat.le_refl _) _
 have z0:w0.heap.size=w.heap.size+1:=by rw[hw0];simp
 have hblk:w0.heap[w.heap.size]?=some (.cells #[.int .i64 (fr:Int),.int .i64 (bl:Int),.int .i64 re] 23 (0,0)):=by rw[hw0];exact Array.getElem?_push_size
 have HC:∀w',Below w0.heap.size w0 w'->w'.cell? ⟨w.heap.size,0,none⟩=some (.int .i64 (fr:Int))/\w'.cell? ⟨w.heap.size,1,none⟩=some (.int .i64 (bl:Int))/\w'.cell? ⟨w.heap.size,2,none⟩=some (.int .i64 re):=fun w' b=>by
  have hb:=(b.block w.heap.size (by omega)).trans hblk
  exact⟨by simp[World.cell?,hb],by simp[World.cell?,hb],by simp[World.cell?,hb]⟩
 have HW:Hid (w.alloc (.cells #[.int .i64 (fr:Int),.int .i64 (bl:Int),.int .i64 re] 23)=w0):=hw0.symm
 have CONT:∀(w2:World) (p:Nat) (f:Int),Below w0.heap.size w0 w2->Dk (fun x=>w0.heap.size<=x) w2 p I [] f false nb->(f≠-1->0<=fuse)->(w2.cell? ⟨w.heap.size,0,none⟩=some (.int .i64 (fr:Int))/\w2.cell? ⟨w.heap.size,1,none⟩=some (.int .i64 (bl:Int))/\w2.cell? ⟨w.heap.size,2,none⟩=some (.int .i64 re))/\Calls Tryz.prog 37 #[.pointer (some ⟨p,0,none⟩),.agg #[.int .i64 (fr:Int),.int .i64 (bl:Int),.int .i64 re]] w2 fun e w3=>(∃st,e=.returned (.tuple #[.pointer (some ⟨st,0,none⟩),.int .i64 0])/\Calls Tryz.prog 17 #[.pointer (some ⟨p,0,none⟩),.int .i64 (-1)] w3 fun e w4=>∃v,e=.returned (.int .i64 v)/\PO (.returned (.tuple #[.pointer (some ⟨p,0,none⟩),.pointer (some ⟨st,0,none⟩),.bool true])) w4)\/(e=.returned (.tuple #[.pointer none,.int .i64 24])/\Calls Tryz.prog 54 #[.pointer (some ⟨p,0,none⟩)] w3 fun e w4=>e=.returned (.bool false)/\PO (.returned (.tuple #[.pointer (some ⟨p,0,none⟩),.pointer none,.bool true])) w4):=fun w2 p f b2 hD hf=>by
  have s2:=b2.size
  refine⟨HC w2 b2,?_⟩
  have B2:Below w.heap.size w w2:=b0.trans (b2.mono (by omega))
  refine Calls.mono (stands_cut hD.cut hct hI ⟨hIl,hIb,by intro q hq;cases hq⟩ hlo hfit hnb re) ?_
  rintro e w3 ⟨b3,n,hn1,hn2,⟨st,j,c,Z',d',s',rfl,hst,hJ,hOn,hSt,hnz,hZ⟩ | ⟨hfu,rfl,Z',d',hD',ho',hf',hct',hZ⟩⟩
  ·refine .inl ⟨st,rfl,Calls.mono (hJ.fuseF hOn.on (-1) (by decide) (by decide)) ?_⟩
   rintro e w4 ⟨⟨v,rfl⟩,⟨Z2,hJ2,g2⟩,b4⟩
   refine⟨v,rfl,?_⟩
   rw[hPO]
   have s3:=b3.size
   have s4:=b4.size
   have bb:Below w.heap.size w w4:=(((But.of_below B2 (X:=fun k=>w0.heap.size<=k)).comp b3 (fun k _ q=>q.1)).comp b4 (fun k _ q=>by
    have:=(hZ k q).1
    rcases this with r | r
    ·exact r.1
    ·omega)).below (by omega) (fun k hk q=>by omega)
   refine⟨bb,p,n,hn1,hn2,.inl ⟨st,rfl,j,c,fun k=>Z2 k/\k<w4.heap.size,_,s',hJ2.cut,hOn.fuse (-1),hSt.keep (b4.block st hSt.lt hnz),fun q=>hnz (g2 st hSt.lt q.1),by omega,fun k q=>⟨?_,q.2⟩⟩⟩
   rcases Nat.lt_or_ge k w3.heap.size with hk | hk
   ·have:=(hZ k (g2 k hk q.1)).1
    rcases this with r | r
    ·have:=r.1;omega
    ·omega
   ·omega
  ·refine .inr ⟨rfl,Calls.mono (On_any hD') ?_⟩
   rintro e w4 ⟨rfl,b4⟩
   refine⟨by rw[ho'];rfl,?_⟩
   rw[hPO]
   have s3:=b3.size
   have s4:=b4.size
   have bb:Below w.heap.size w w4:=(((But.of_below B2 (X:=fun k=>w0.heap.size<=k)).comp b3 (fun k _ q=>q.1)).trans (But.of_below b4)).below (by omega) (fun k hk q=>by omega)
   refine⟨bb,p,n,hn1,hn2,.inr ⟨hf hfu,rfl,Z',d',hD'.keep (fun k _ hk=>b4.block k hk),ho',hf',hct',fun k q=>⟨?_,Nat.lt_of_lt_of_le (hZ k q).2 s4⟩⟩⟩
   have:=(hZ k q).1
   rcases this with r | r
   ·have:=r.1;omega
   ·omega
 have hOl:=hO.lt
 have hO0:Own w0 ib (512 * nb) ic I:=hO.keep (b0.block ib hOl)
 have HL:Hid (Calls Tryz.prog 57 #[.slice (some ⟨ib,0,none⟩) (512 * nb) ic] w0 fun e w1=>∃p,e=.returned (.tuple #[.pointer (some ⟨p,0,none⟩),.int .i64 0])/\(fuse<0->(w1.cell? ⟨w.heap.size,0,none⟩=some (.int .i64 (fr:Int))/\w1.cell? ⟨w.heap.size,1,none⟩=some (.int .i64 (bl:Int))/\w1.cell? ⟨w.heap.size,2,none⟩=some (.int .i64 re))/\Calls Tryz.prog 37 #[.pointer (some ⟨p,0,none⟩),.agg #[.int .i64 (fr:Int),.int .i64 (bl:Int),.int .i64 re]] w1 fun e w3=>∃st,e=.returned (.tuple #[.pointer (some ⟨st,0,none⟩),.int .i64 0])/\Calls Tryz.prog 17 #[.pointer (some ⟨p,0,none⟩),.int .i64 (-1)] w3 fun e w4=>∃v,e=.returned (.int .i64 v)/\PO (.returned (.tuple #[.pointer (some ⟨p,0,none⟩),.pointer (some ⟨st,0,none⟩),.bool true])) w4)/\(0<=fuse->Calls Tryz.prog 17 #[.pointer (some ⟨p,0,none⟩),.int .i64 fuse] w1 fun e w2=>∃v,e=.returned (.int .i64 v)/\(w2.cell? ⟨w.heap.size,0,none⟩=some (.int .i64 (fr:Int))/\w2.cell? ⟨w.heap.size,1,none⟩=some (.int .i64 (bl:Int))/\w2.cell? ⟨w.heap.size,2,none⟩=some (.int .i64 re))/\Calls Tryz.prog 37 #[.pointer (some ⟨p,0,none⟩),.agg #[.int .i64 (fr:Int),.int .i64 (bl:Int),.int .i64 re]] w2 fun e w3=>(∃st,e=.returned (.tuple #[.pointer (some ⟨st,0,none⟩),.int .i64 0])/\Calls Tryz.prog 17 #[.pointer (some ⟨p,0,none⟩),.int .i64 (-1)] w3 fun e w4=>∃v,e=.returned (.int .i64 v)/\PO (.returned (.tuple #[.pointer (some ⟨p,0,none⟩),.pointer (some ⟨st,0,none⟩),.bool true])) w4)\/(e=.returned (.tuple #[.pointer none,.int .i64 24])/\Calls Tryz.prog 54 #[.pointer (some ⟨p,0,none⟩)] w3 fun e w4=>e=.returned (.bool false)/\PO (.returned (.tuple #[.pointer (some ⟨p,0,none⟩),.pointer none,.bool true])) w4))):=by
  refine Calls.mono (Open_ok ⟨ib,0,none⟩ nb ic I w0 (by omega) hnb (hO0.rd hIb)) ?_
  rintro e w1 ⟨p,rfl,hp,hD,b1⟩
  refine⟨p,rfl,fun hneg=>?_,fun hpos=>?_⟩
  ·obtain⟨c1,c2⟩:=CONT w1 p (-1) b1 hD (fun q=>absurd rfl q)
   refine⟨c1,?_⟩
   have B1:Below w.heap.size w w1:=b0.trans (b1.mono (by omega))
   clear c2
   have s2:=b1.size
   refine Calls.mono (stands_cut hD.cut hct hI ⟨hIl,hIb,by intro q hq;cases hq⟩ hlo hfit hnb re) ?_
   rintro e w3 ⟨b3,n,hn1,hn2,⟨st,j,c,Z',d',s',rfl,hst,hJ,hOn,hSt,hnz,hZ⟩ | ⟨hfu,_⟩⟩
   ·refine⟨st,rfl,Calls.mono (hJ.fuseF hOn.on (-1) (by decide) (by decide)) ?_⟩
    rintro e w4 ⟨⟨v,rfl⟩,⟨Z2,hJ2,g2⟩,b4⟩
    refine⟨v,rfl,?_⟩
    rw[hPO]
    have s3:=b3.size
    have s4:=b4.size
    have bb:Below w.heap.size w w4:=(((But.of_below B1 (X:=fun k=>w0.heap.size<=k)).comp b3 (fun k _ q=>q.1)).comp b4 (fun k _ q=>by
     have:=(hZ k q).1
     rcases this with r | r
     ·exact r.1
     ·omega)).below (by omega) (fun k hk q=>by omega)
    refine⟨bb,p,n,hn1,hn2,.inl ⟨st,rfl,j,c,fun k=>Z2 k/\k<w4.heap.size,_,s',hJ2.cut,hOn.fuse (-1),hSt.keep (b4.block st hSt.lt hnz),fun q=>hnz (g2 st hSt.lt q.1),by omega,fun k q=>⟨?_,q.2⟩⟩⟩
    rcases Nat.lt_or_ge k w3.heap.size with hk | hk
    ·have:=(hZ k (g2 k hk q.1)).1
     rcases this with r | r
     ·have:=r.1;omega
     ·omega
    ·omega
   ·exact absurd rfl hfu
  ·refine Calls.mono (Fuse_any hD fuse hfu) ?_
   rintro e w2 ⟨rfl,hD2,b2⟩
   have e1:fuseR false fuse=0:=by
    unfold fuseR
    rw[if_neg (by decide),if_neg (by omega)]
   rw[e1,if_pos rfl]at hD2
   have s1:=b1.size
   have s2:=b2.size
   have b02:Below w0.heap.size w0 w2:=((But.of_below b1 (X:=fun k=>w0.heap.size<=k)).comp b2 (fun k _ q=>q)).below (Nat.le_refl _) (fun k hk q=>by omega)
   exact⟨_,rfl,CONT w2 p fuse b02 hD2 (fun _=>hpos)⟩
 have hb64:=hfu
 clear hPO hw0 b0 hblk hct hI hIl hIb hO hO0 hOl HC CONT hfu z0
 go_enter Tryz.func21,Tryz.ntmps21
 go_wp2_with fail
 rw[HW.out]
 refine Calls.mono HL.out ?_
 rintro e w1 ⟨p,rfl,hneg,hpos⟩
 clear HW HL
 by_cases hf:fuse<0
 ·obtain⟨⟨c0,c1,c2⟩,hT⟩:=hneg hf
  have HT:=hid hT
  have hf':¬(0:Int)<=fuse:=by omega
  clear hneg hpos hT hf
  go_wp2_with fail
  refine Calls.mono HT.out ?_
  rintro e w3 ⟨st,rfl,q⟩
  have H3:=hid q
  clear q HT c0 c1 c2
  go_wp2_with fail
  refine Calls.mono H3.out ?_
  rintro e w4 ⟨v,rfl,q⟩
  have FIN:=hid q
  clear q H3
  go_wp2
  go_ret3
  exact FIN.out
 ·have hf':(0:Int)<=fuse:=by omega
  have HT:=hid (hpos hf')
  clear hneg hpos hf
  go_wp2_with fail
  refine Calls.mono HT.out ?_
  rintro e w2 ⟨v,rfl,⟨c0,c1,c2⟩,q⟩
  have H2:=hid q
  clear q HT
  go_wp2_with fail
  refine Calls.mono H2.out ?_
  rintro e w3 (⟨st,rfl,q⟩ | ⟨rfl,q⟩)
  ·have H3:=hid q
   clear q H2 c0 c1 c2
   go_wp2_with fail
   refine Calls.mono H3.out ?_
   rintro e w4 ⟨v,rfl,q⟩
   have FIN:=hid q
   clear q H3
   go_wp2
   go_ret3
   exact FIN.out
  ·have H3:=hid q
   clear q H2 c0 c1 c2
   go_wp2_with fail
   refine Calls.mono H3.out ?_
   rintro e w4 ⟨rfl,q⟩
   have FIN:=hid q
   clear q H3
   go_wp2
   go_ret3
   exact FIN.out
end Go.Proofs.YthfojpcibnfmgaaGreat
