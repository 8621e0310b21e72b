import Derived.Test.YthfojpcibnfmgaaGreatH25
import Derived.Test.YthfojpcibnfmgaaGreatH00
import Derived.Test.YthfojpcibnfmgaaGreatH19
set_option maxRecDepth 100000
set_option maxHeartbeats 16000000
namespace Go.Proofs.YthfojpcibnfmgaaGreat
variable {Z:Nat->Prop}
variable {w:World}
variable {K b bl fr j lo nb p rb st t:Nat}
variable {d:Pd}
variable {s:Js}
variable {Ts:List Tn}
variable {fv lv:Value}
open Go.RowKit Go.Deep
def StP (Z:Nat->Prop) (w:World) (p nb fr bl:Nat) (home:Nat->List Int) (Ts:List Tn) (e:Ending) (w':World):Prop :=
 ∃st j c Z' d' s',e=.returned (.tuple #[.pointer (some ⟨st,0,none⟩),.int .i64 0])/\w.heap.size<=st/\Jq Z' w' j c p 4 nb 0 fr bl d' s'/\d'.fu=-1/\On d' s' nb fr bl Ts.length home Ts/\Stb w' st j (.pointer none)/\¬Z' st/\(∀k,Z' k->(Z k\/w.heap.size<=k)/\k<w'.heap.size)/\But Z w w'
theorem stands_any{home:Nat->List Int}(hD:Dk Z w p d.img d.puts d.fu d.off nb)(hon:On d s nb fr bl lo home Ts)(hfu:d.fu=-1)(hf:d.Fits nb)(hlo:16<=bl)(hfit:fr+bl<=nb)(hnb:nb<=524288)(re:Int) :
  Calls Tryz.prog 37 #[.pointer (some ⟨p,0,none⟩),.agg #[.int .i64 (fr:Int),.int .i64 (bl:Int),.int .i64 re]] w (StP Z w p nb fr bl home Ts):=by
 obtain⟨PO,hPO⟩:∃PO:Ending->World->Prop,PO=StP Z w p nb fr bl home Ts:=⟨_,rfl⟩
 rw[<- hPO]
 obtain⟨w0,hw0⟩:∃w0,w0=w.alloc (.cells #[.int .i64 (fr:Int),.int .i64 (bl:Int),.int .i64 re] 23):=⟨_,rfl⟩
 have b0:Below w.heap.size w w0:=by rw[hw0];exact (Below.refl _ _).alloc (Nat.le_refl _) _
 have z0:w0.heap.size=w.heap.size+1:=by rw[hw0];simp
 have hblk:w0.heap[w.heap.size]?=some (.cells #[.int .i64 (fr:Int),.int .i64 (bl:Int),.int .i64 re] 23 (0,0)):=by rw[hw0];exact Array.getElem?_push_size
 have HC:Hid (∀w',Below w0.heap.size w0 w'->w'.cell? ⟨w.heap.size,0,none⟩=some (.int .i64 (fr:Int))/\w'.cell? ⟨w.heap.size,1,none⟩=some (.int .i64 (bl:Int))):=fun w' b=>by
  have hb:=(b.block w.heap.size (by omega)).trans hblk
  exact⟨by simp[World.cell?,hb],by simp[World.cell?,hb]⟩
 have HW:Hid (w.alloc (.cells #[.int .i64 (fr:Int),.int .i64 (bl:Int),.int .i64 re] 23)=w0):=hw0.symm
 have HF:Hid (∀w1 c,Below w0.heap.size w0 w1->Cst (fun k=>w0.heap.size<=k) w1 c p 4 0 0 []->Calls Tryz.prog 74 #[.pointer (some ⟨c,0,none⟩),.int .i64 (fr:Int),.int .i64 (bl:Int)] w1 fun e w2=>∃j,e=.returned (.tuple #[.pointer (some ⟨j,0,none⟩),.int .i64 0])/\Calls Tryz.prog 10 #[.pointer (some ⟨j,0,none⟩)] w2 fun e w'=>∃st,e=.returned (.tuple #[.pointer (some ⟨st,0,none⟩),.int .i64 0])/\PO e w'):=fun w1 c b1 hCs=>by
  have s1:=b1.size
  have hD0:Dk (fun k=>Z k/\k<w.heap.size) w0 p d.img d.puts d.fu d.off nb:=hD.cut.keep (fun k q hk=>b0.block k q.2)
  have hq:=Cq.new' hD0 hCs b1
  have hpl:=hon.puts hlo hfit hnb
  refine Calls.mono (Open_any hq (fr:Int) (bl:Int) (by omega)) ?_
  intro e w2 hO
  obtain⟨b2,j,Z2,d2,s2,rfl,hj2,g2,fu2,J2,on2⟩:=OpenP.anew hO hon hfu hf hlo hfit hnb
  have q2:=b2.size
  refine⟨j,rfl,?_⟩
  refine Calls.mono (topen_any J2.cut on2.on) ?_
  rintro e w3 ⟨st,rfl,h1,h2,h3⟩
  refine⟨st,rfl,?_⟩
  rw[hPO]
  have q3:=h3.size
  have B1:Below w.heap.size w w1:=b0.trans (b1.mono (by omega))
  have bb:But Z w w2:=(But.of_below B1 (X:=Z)).comp b2 (fun k hk q=>by
   rcases q.1 with q | q
   ·exact q.1
   ·omega)
  refine⟨st,j,c,fun k=>Z2 k/\k<w2.heap.size,d2,s2,rfl,by omega,J2.cut.below h3,fu2,on2,h2,(fun e=>by omega),fun k q=>⟨?_,by omega⟩,bb.comp (But.of_below h3 (X:=fun _=>False)) (fun _ _ q=>q.elim)⟩
  rcases Nat.lt_or_ge k w.heap.size with hk | hk
  ·have:=(g2 k (by omega) q.1).1
   rcases this with r | r
   ·exact .inl r.1
   ·omega
  ·exact .inr hk
 clear hPO hw0 b0 hblk hD hon hfu hf
 go_enter Tryz.func37,Tryz.ntmps37
 go_wp2_with fail
 rw[HW.out]
 refine Calls.mono (CNew_ok (w:=w0) p 4 (by omega) (by omega)) ?_
 rintro e w1 ⟨c,rfl,hc,hCs,b1⟩
 have HF1:=hid (HF.out w1 c b1 hCs)
 obtain⟨d0,d1⟩:=HC.out w1 b1
 clear HF HC hc hCs b1 HW
 go_wp2_with fail
 refine Calls.mono HF1.out ?_
 rintro e w2 ⟨j,rfl,hT⟩
 have HT:=hid hT
 clear hT HF1
 go_wp2_with fail
 refine Calls.mono HT.out ?_
 rintro e w3 ⟨st,rfl,q⟩
 have FIN:=hid q
 clear q HT
 go_wp2
 exact FIN.out
open Go.RowKit Go.Deep
theorem info9:(Tryz.prog.info? 9).map (fun i=>(i.zero,i.size,i.bytes))=some (some (.string ByteArray.empty),1,16):=by kernel_rfl
def R5b (w:World) (rb nb fr bl:Nat) (lv:Value):Prop:=w.heap[rb]?=some (.cells #[.int .i64 (nb:Int),.int .i64 (fr:Int),.int .i64 (bl:Int),lv,.slice none 0 0,.int .i64 0,.pointer none,.bool false] 67 (0,0))
theorem R5b.cell(h:R5b w rb nb fr bl lv)(i:Nat):w.cell? ⟨rb,i,none⟩=#[.int .i64 (nb:Int),.int .i64 (fr:Int),.int .i64 (bl:Int),lv,.slice none 0 0,.int .i64 0,.pointer none,.bool false][i]?:=by
 unfold R5b at h
 simp[World.cell?,h]
theorem R5b.frozen(h:R5b w rb nb fr bl lv)(i:Nat):w.frozen? ⟨rb,i,none⟩=false:=by
 unfold R5b at h
 simp[World.frozen?,h]
theorem R5b.lt(h:R5b w rb nb fr bl lv):rb<w.heap.size:=(Array.getElem?_eq_some_iff.1 h).1
theorem R5b.set(h:R5b w rb nb fr bl lv)(v:Value):R5b (w.setCell ⟨rb,3,none⟩ v) rb nb fr bl v:=by
 unfold R5b at *
 simp only[World.setCell,Array.getElem?_modify]
 rw[h]
 simp
theorem rnew5_any(nb fr bl:Nat)(hnb:nb<=524288)(w:World) :
  Calls Tryz.prog 23 #[.int .i64 (nb:Int),.int .i64 (fr:Int),.int .i64 (bl:Int)] w fun e w'=>∃lv,e=.returned (.pointer (some ⟨w.heap.size,0,none⟩))/\R5b w' w.heap.size nb fr bl lv/\w'.ownsRow (w.heap.size+1) 9 1 lv nb (List.replicate nb (.string (strOfNums (zeros 512))))/\Below w.heap.size w w':=by
 obtain⟨PO,hPO⟩:∃PO:Ending->World->Prop,PO=fun e w'=>∃lv,e=.returned (.pointer (some ⟨w.heap.size,0,none⟩))/\R5b w' w.heap.size nb fr bl lv/\w'.ownsRow (w.heap.size+1) 9 1 lv nb (List.replicate nb (.string (strOfNums (zeros 512))))/\Below w.heap.size w w':=⟨_,rfl⟩
 rw[<- hPO]
 obtain⟨i9,hi9,hz9,hs9,hb9⟩:=info_parts info9
 have hmk':∀u:World,(Instr.makeSlice 40 (.int .i64 512) (.int .i64 512)).run Tryz.prog u=.ok (.slice (some ⟨u.heap.size,0,none⟩) 512 512) (u.alloc (.cells ((zeros 512).map (Value.int .u8)).toArray 5)):=fun u=>make_u8 512 (by decide) u
 obtain⟨w1,hw1⟩:∃w1,w1=w.alloc (.cells #[.int .i64 (nb:Int),.int .i64 (fr:Int),.int .i64 (bl:Int),.slice none 0 0,.slice none 0 0,.int .i64 0,.pointer none,.bool false] 67):=⟨_,rfl⟩
 have z1:w1.heap.size=w.heap.size+1:=by rw[hw1];simp
 have b1:Below w.heap.size w w1:=by rw[hw1];exact (Below.refl _ _).alloc (Nat.le_refl _) _
 have r1:R5b w1 w.heap.size nb fr bl (.slice none 0 0):=by rw[hw1];exact Array.getElem?_push_size
 obtain⟨w2,hw2⟩:∃w2,w2=w1.alloc (.cells ((zeros 512).map (Value.int .u8)).toArray 5):=⟨_,rfl⟩
 have z2:w2.heap.size=w.heap.size+2:=by rw[hw2];simp[z1]
 have b2:Below w1.heap.size w1 w2:=by rw[hw2];exact (Below.refl _ _).alloc (Nat.le_refl _) _
 have o2:Own w2 (w.heap.size+1) 512 512 (zeros 512):=by
  rw[hw2,<- z1]
  exact Own.of_blk (Array.getElem?_push_size) (by simp[zeros]) (by unfold maxLen;omega)
 have hcv:=conv_str (o2.rdn (X:=fun _=>False) (isB_zeros' _) (fun q=>q)).rd 512
 have H0:Hid (R5b w2 w.heap.size nb fr bl (.slice none 0 0)/\Below w.heap.size w w2):=⟨(b2.block _ r1.lt).trans r1,b1.trans (b2.mono b1.size)⟩
 have HW1:Hid (w.alloc (.cells #[.int .i64 (nb:Int),.int .i64 (fr:Int),.int .i64 (bl:Int),.slice none 0 0,.slice none 0 0,.int .i64 0,.pointer none,.bool false] 67)=w1):=hw1.symm
 have HW2:Hid (w1.alloc (.cells ((zeros 512).map (Value.int .u8)).toArray 5)=w2):=hw2.symm
 have HP:Hid (∀w' lv,R5b w' w.heap.size nb fr bl lv->w'.ownsRow (w.heap.size+1) 9 1 lv nb (List.replicate nb (.string (strOfNums (zeros 512))))->Below w.heap.size w w'->PO (.returned (.pointer (some ⟨w.heap.size,0,none⟩))) w'):=fun w' lv q1 q2 q3=>by
  rw[hPO];exact⟨lv,rfl,q1,q2,q3⟩
 generalize strOfNums (zeros 512)=S at *
 clear hPO b1 r1 b2 o2 hw1 hw2
 go_enter Tryz.func23,Tryz.ntmps23
 go_wp2_with fail
 rw[HW1.out,HW2.out,hcv]
 clear HW1 HW2 hmk'
 go_wp2_with fail
 go_loopw [9] (fun iv wr=>∃(q:Nat) (lv:Value),q<=nb/\iv=.int .i64 (q:Int)/\R5b wr w.heap.size nb fr bl lv/\wr.ownsRow (w.heap.size+1) 9 1 lv q (List.replicate q (.string S))/\Below w.heap.size w wr) (fun iv _=>nb-(intOf iv).toNat)
 case atStart=>exact⟨0,_,Nat.zero_le _,rfl,H0.out.1,⟨rfl,.inl ⟨rfl,rfl⟩⟩,H0.out.2⟩
 case round=>
  clear H0 hcv
  obtain⟨q,lv,hqN,rfl,hr,hrow,hbt⟩:=hrel
  by_cases hq:q<nb
  ·have hq':(q:Int)<(nb:Int):=by omega
   have k3:=hr.cell 3
   have kf:=hr.frozen 3
   simp at k3
   have hrl:=hr.lt
   have hs:=hbt.size
   have HRow2:=hid (owns_below hrow ((Below.refl wr.heap.size wr).alloc (Nat.le_refl _) (.cells #[.string S] 9)))
   have HR:=hid hr
   have HBT:=hid hbt
   have HO:=hid hrow
   clear hr hrow hbt HP
   go_wp2_with (at_builtin;refine wpList_append_lies _ rfl _ _ _ rfl (w.heap.size+1) 9 i9 (.string ByteArray.empty) 1 16 Tryz.underlying64 hi9 hz9 hs9 hb9 rfl (by decide) _ q _ rfl (by exact HRow2.out) ⟨wr.heap.size,0,none⟩ 1 1 [.string S] rfl rfl (by exact newsI1 wr _ _) (by intro u hu;simp at hu;subst hu;rfl) (by decide) (by unfold maxLen;omega) (by omega) (by simp;omega) (wr.heap.size+1) (by simp) ?_)
   intro g4 cap4 w6 ho4 hg4 hlie4 hl4
   have hrb:lv.ownBlock≠some w.heap.size:=fun e=>by
    have:=(World.ownsRow.lt HO.out w.heap.size e).1
    omega
   have h6:w6.heap[w.heap.size]?=wr.heap[w.heap.size]?:=(hg4.block w.heap.size (by simp;omega) hrb.symm).trans (Below.heap_alloc _ _ _ hrl)
   have r6:R5b w6 w.heap.size nb fr bl lv:=h6.trans HR.out
   have b6:Below w.heap.size w w6:=(((But.of_below HBT.out (X:=fun k=>w.heap.size+1<=k)).alloc (.cells #[.string S] 9)).of_grown hg4 (fun x e _=>(World.ownsRow.lt HO.out x e).1)).below (Nat.le_refl _) (fun k hk q=>by omega)
   have k6:=r6.cell 3
   have f6:=r6.frozen 3
   simp at k6
   have hg4l:=(World.ownsRow.lt ho4 g4 rfl).1
   have FIN:Hid (R5b (w6.setCell ⟨w.heap.size,3,none⟩ (.slice (some ⟨g4,0,none⟩) (q+1) cap4)) w.heap.size nb fr bl (.slice (some ⟨g4,0,none⟩) (q+1) cap4)/\(w6.setCell ⟨w.heap.size,3,none⟩ (.slice (some ⟨g4,0,none⟩) (q+1) cap4)).ownsRow (w.heap.size+1) 9 1 (.slice (some ⟨g4,0,none⟩) (q+1) cap4) (q+1) (List.replicate (q+1) (.string S))/\Below w.heap.size w (w6.setCell ⟨w.heap.size,3,none⟩ (.slice (some ⟨g4,0,none⟩) (q+1) cap4))):=by
    refine⟨r6.set _,?_,?_⟩
    ·rw[List.replicate_succ']
     exact owns_setCell ho4 (fun e=>by injection e with e;simp only at e;omega) _
    ·exact (((But.of_below b6 (X:=fun k=>w.heap.size<=k))).setCell (p:=⟨w.heap.size,3,none⟩) (Nat.le_refl _) _).below (Nat.le_refl _) (fun k hk q=>by omega)
   clear ho4 hg4 hlie4 hl4 h6 r6 b6 HRow2 HR HBT HO k3 kf hrb
   go_wp2_with fail
   go_roundw
   case rel=>exact⟨q+1,_,by omega,by go_num,FIN.out.1,FIN.out.2.1,FIN.out.2.2⟩
   case measure=>simp[intOf];omega
  ·have hqe:q=nb:=by omega
   have hq':¬(q:Int)<(nb:Int):=by omega
   subst hqe
   have FIN:=hid (HP.out wr lv hr hrow hbt)
   clear hr hrow hbt HP
   go_wp2
   exact FIN.out
open Go.RowKit Go.Deep
open Go.RowKit Go.Deep
def OpP2 (w:World) (nb fr bl:Nat) (e:Ending) (w':World):Prop :=
 ∃ob p st rb j c Z d s lv,e=.returned (.tuple #[.pointer (some ⟨ob,0,none⟩),.bool true])/\(w.heap.size<=ob/\w.heap.size<=st/\w.heap.size<=rb/\ob<w'.heap.size/\rb<ob/\st<rb)/\w'.heap[ob]?=some (.cells #[.pointer (some ⟨p,0,none⟩),.pointer (some ⟨st,0,none⟩),.pointer (some ⟨rb,0,none⟩),.slice none 0 0,.slice none 0 0,.slice none 0 0,.int .i64 0] 58 (0,0))/\Jq Z w' j c p 4 nb 0 fr bl d s/\d.fu=-1/\On d s nb fr bl 0 (⟨zeros (512 * nb),[],-1,false⟩:Pd).read []/\Stb w' st j (.pointer none)/\(¬Z st/\¬Z ob/\¬Z rb)/\(∀k,Z k->w.heap.size<=k/\k<rb)/\(R5b w' rb nb fr bl lv/\w'.ownsRow (rb+1) 9 1 lv nb (List.replicate nb (.string (strOfNums (zeros 512)))))/\Below w.heap.size w w'
theorem open5_two(a b c:Int)(fr bl re nb:Nat)(hfr:fr=into 10 a)(hbl:bl=16+into 16 b)(hre:re=1+into 9 c)(hnbe:nb=fr+bl+re)(w:World) :
  Calls Tryz.prog 12 #[.agg #[.int .i64 a,.int .i64 b,.int .i64 c]] w (OpP2 w nb fr bl):=by
 obtain⟨PO,hPO⟩:∃PO:Ending->World->Prop,PO=OpP2 w nb fr bl:=⟨_,rfl⟩
 rw[<- hPO]
 have l1:=into_lt a (show 0<10 by decide)
 have l2:=into_lt b (show 0<16 by decide)
 have l3:=into_lt c (show 0<9 by decide)
 obtain⟨w0,hw0⟩:∃w0,w0=w.alloc (.cells #[.int .i64 a,.int .i64 b,.int .i64 c] 23):=⟨_,rfl⟩
 have b0:Below w.heap.size w w0:=by rw[hw0];exact (Below.refl _ _).alloc (Nat.le_refl _) _
 have z0:w0.heap.size=w.heap.size+1:=by rw[hw0];simp
 have hblk:w0.heap[w.heap.size]?=some (.cells #[.int .i64 a,.int .i64 b,.int .i64 c] 23 (0,0)):=by rw[hw0];exact Array.getElem?_push_size
 have HC:Hid (∀w',Below w0.heap.size w0 w'->(w'.cell? ⟨w.heap.size,0,none⟩=some (.int .i64 a)/\w'.cell? ⟨w.heap.size,1,none⟩=some (.int .i64 b)/\w'.cell? ⟨w.heap.size,2,none⟩=some (.int .i64 c))/\(∀i,w'.frozen? ⟨w.heap.size,i,none⟩=false)):=fun w' b=>by
  have hb:=(b.block w.heap.size (by omega)).trans hblk
  exact⟨⟨by simp[World.cell?,hb],by simp[World.cell?,hb],by simp[World.cell?,hb]⟩,fun i=>by simp[World.frozen?,hb]⟩
 have HW:Hid (w.alloc (.cells #[.int .i64 a,.int .i64 b,.int .i64 c] 23)=w0):=hw0.symm
 have HR:=hid (right_any a b c w0)
 rw[show (16+(into 16 b:Int))=(bl:Int) by omega,show (1+(into 9 c:Int))=(re:Int) by omega,show ((into 10 a:Nat):Int)=(fr:Int) by omega]at HR
 have HST:Hid (∀w1,Below w0.heap.size w0 w1->∃w2,((w1.setCell ⟨w.heap.size,0,none⟩ (.int .i64 (fr:Int))).setCell ⟨w.heap.size,1,none⟩ (.int .i64 (bl:Int))).setCell ⟨w.heap.size,2,none⟩ (.int .i64 (re:Int))=w2/\Below w.heap.size w w2/\w.heap.size<w2.heap.size/\∀w',Below w2.heap.size w2 w'->(w'.cell? ⟨w.heap.size,0,none⟩=some (.int .i64 (fr:Int))/\w'.cell? ⟨w.heap.size,1,none⟩=some (.int .i64 (bl:Int))/\w'.cell? ⟨w.heap.size,2,none⟩=some (.int .i64 (re:Int)))):=fun w1 b1=>by
  have h1:=(b1.block w.heap.size (by omega)).trans hblk
  have s1:=b1.size
  have B1:Below w.heap.size w w1:=b0.trans (b1.mono (by omega))
  refine⟨_,rfl,((((But.of_below B1 (X:=fun k=>w.heap.size<=k)).setCell (p:=⟨w.heap.size,0,none⟩) (Nat.le_refl _) _).setCell (p:=⟨w.heap.size,1,none⟩) (Nat.le_refl _) _).setCell (p:=⟨w.heap.size,2,none⟩) (Nat.le_refl _) _).below (Nat.le_refl _) (fun k hk q=>by omega),by simp;omega,fun w' b'=>?_⟩
  have h2:(((w1.setCell ⟨w.heap.size,0,none⟩ (.int .i64 (fr:Int))).setCell ⟨w.heap.size,1,none⟩ (.int .i64 (bl:Int))).setCell ⟨w.heap.size,2,none⟩ (.int .i64 (re:Int))).heap[w.heap.size]?=some (.cells #[.int .i64 (fr:Int),.int .i64 (bl:Int),.int .i64 (re:Int)] 23 (0,0)):=by
   simp only[World.setCell,Array.getElem?_modify]
   rw[h1]
   simp
  have hb:=(b'.block w.heap.size (by simp;omega)).trans h2
  exact⟨by simp[World.cell?,hb],by simp[World.cell?,hb],by simp[World.cell?,hb]⟩
 have HFin:Hid (∀w2 w3 w4 w5 p st rb lv Z,Below w.heap.size w w2->Below w2.heap.size w2 w3->(∀k,Z k->w2.heap.size<=k/\k<w3.heap.size)->StP Z w3 p nb fr bl (⟨zeros (512 * nb),[],-1,false⟩:Pd).read [] (.returned (.tuple #[.pointer (some ⟨st,0,none⟩),.int .i64 0])) w4->rb=w4.heap.size->R5b w5 rb nb fr bl lv->w5.ownsRow (rb+1) 9 1 lv nb (List.replicate nb (.string (strOfNums (zeros 512))))->Below w4.heap.size w4 w5->PO (.returned (.tuple #[.pointer (some ⟨w5.heap.size,0,none⟩),.bool true])) (w5.alloc (.cells #[.pointer (some ⟨p,0,none⟩),.pointer (some ⟨st,0,none⟩),.pointer (some ⟨rb,0,none⟩),.slice none 0 0,.slice none 0 0,.slice none 0 0,.int .i64 0] 58))):=fun w2 w3 w4 w5 p st rb lv Z q1 q2 q3 q4 q5 q6 q7 q8=>by
  obtain⟨st',j,cc,Z',d',s',e1,e2,e3,e4,e5,e6,e7,e8,e9⟩:=q4
  have est:st'=st:=by injection e1 with e1;injection e1 with e1;simp at e1;exact e1.symm
  subst est
  rw[hPO]
  have s1:=q1.size
  have s2:=q2.size
  have s9:=e9.size
  have s8:=q8.size
  have hstl:=e6.lt
  have hrl:=q6.lt
  have B4:Below w.heap.size w w4:=((But.of_below (q1.trans (q2.mono s1)) (X:=fun k=>w.heap.size<=k)).comp e9 (fun k hk q=>by have:=q3 k q;omega)).below (Nat.le_refl _) (fun k hk q=>by omega)
  have b6:Below w5.heap.size w5 (w5.alloc (.cells #[.pointer (some ⟨p,0,none⟩),.pointer (some ⟨st',0,none⟩),.pointer (some ⟨rb,0,none⟩),.slice none 0 0,.slice none 0 0,.slice none 0 0,.int .i64 0] 58)):=(Below.refl _ _).alloc (Nat.le_refl _) _
  have b46:=q8.trans (b6.mono s8)
  have z6:(w5.alloc (.cells #[.pointer (some ⟨p,0,none⟩),.pointer (some ⟨st',0,none⟩),.pointer (some ⟨rb,0,none⟩),.slice none 0 0,.slice none 0 0,.slice none 0 0,.int .i64 0] 58)).heap.size=w5.heap.size+1:=by simp
  refine⟨w5.heap.size,p,st',rb,j,cc,Z',d',s',lv,rfl,⟨by omega,by omega,by omega,by omega,by omega,by omega⟩,Array.getElem?_push_size,e3.below b46,e4,e5,e6.keep (b46.block _ hstl),⟨e7,fun q=>by have:=(e8 _ q).2;omega,fun q=>by have:=(e8 _ q).2;omega⟩,fun k q=>?_,⟨(b6.block _ hrl).trans q6,owns_below q7 b6⟩,B4.trans (b46.mono (by omega))⟩
  obtain⟨r1,r2⟩:=e8 k q
  refine⟨?_,by omega⟩
  rcases r1 with r1 | r1
  ·have:=q3 k r1;omega
  ·omega
 have hnb:nb<=524288:=by omega
 have hlo:16<=bl:=by omega
 have hfit:fr+bl<=nb:=by omega
 have hsum:fr+bl+re<=524288:=by omega
 obtain⟨⟨c0,c1,c2⟩,hf0⟩:=HC.out w0 (Below.refl _ _)
 have HNB:=hid hnbe
 clear hw0 b0 hblk hPO hfr hbl hre hnbe l1 l2 l3
 go_enter Tryz.func12,Tryz.ntmps12
 go_wp2_with fail
 rw[HW.out]
 go_wp2_with fail
 refine Calls.mono HR.out ?_
 rintro e w1 ⟨rfl,b1⟩
 obtain⟨⟨d0,d1,d2⟩,hf1⟩:=HC.out w1 b1
 have g0:=hf1 0
 have g1:=hf1 1
 have g2:=hf1 2
 obtain⟨w2,hw2,B2,z2,HC2⟩:=HST.out w1 b1
 have HB2:=hid B2
 replace HC2:=hid HC2
 obtain⟨t0,t1,t2⟩:=HC2.out w2 (Below.refl _ _)
 clear HC HST HR HW b1 hf1 hf0 c0 c1 c2 B2
 go_wp2_with fail
 refine Calls.mono (laid_any fr bl re nb HNB.out hlo hnb w2) ?_
 rintro e w3 ⟨p,d,rfl,⟨Z,hD,hZ⟩,hft,hfu,hon,b3⟩
 obtain⟨k0,k1,k2⟩:=HC2.out w3 b3
 have HSt:=hid (stands_any hD hon hfu hft hlo hfit hnb (re:Int))
 have HX:=hid (And.intro b3 hZ)
 clear hD hft hfu hon b3 hZ d0 d1 d2 g0 g1 g2 hw2 t0 t1 t2
 go_wp2_with fail
 refine Calls.mono HSt.out ?_
 intro e w4 hS
 obtain⟨st,_,_,_,_,_,rfl,_⟩:=id hS
 have B24:Below w2.heap.size w2 w4:=by
  obtain⟨_,_,_,_,_,_,_,_,_,_,_,_,_,_,e9⟩:=id hS
  exact ((But.of_below HX.out.1 (X:=fun k=>w2.heap.size<=k)).comp e9 (fun k hk q=>(HX.out.2 k q).1)).below (Nat.le_refl _) (fun k hk q=>by omega)
 obtain⟨m0,m1,m2⟩:=HC2.out w4 B24
 have HS4:=hid hS
 have HB24:=hid B24
 clear hS HSt k0 k1 k2 B24
 go_wp2_with fail
 have HN:=hid (rnew5_any nb fr bl hnb w4)
 rw[show ((nb:Nat):Int)=(fr:Int)+(bl:Int)+(re:Int) by have:=HNB.out;omega]at HN
 refine Calls.mono HN.out ?_
 rintro e w5 ⟨lv,rfl,hr5,ho5,b5⟩
 have FIN:=hid (HFin.out w2 w3 w4 w5 p st w4.heap.size lv Z HB2.out HX.out.1 HX.out.2 HS4.out rfl hr5 ho5 b5)
 clear HN HFin HB2 HX HS4 hr5 ho5 b5 HB24 HC2 m0 m1 m2 HNB
 go_wp2
 exact FIN.out
open Go.RowKit Go.Deep
theorem neq_tnil(w:World)(a:Addr):(binOp .neq 81 (.pointer none) (.pointer (some a))).run Tryz.prog w=.ok (.bool true) w:=by
 have h:∀d:Nat,(Op.equalIn (d+1) 81 (.pointer none) (.pointer (some a))).run Tryz.prog w=.ok false w:=fun d=>by
  simp[Op.equalIn,run_underlying Tryz.underlying81]
 simp only[binOp]
 simp[Op.equal,Op.maxDepth,h 9999]
theorem task_nil(w:World):Calls Tryz.prog 62 #[.pointer none] w fun e w'=>e=.returned (.int .i64 1)/\Below w.heap.size w w':=by
 have B:Hid (Below w.heap.size w w):=Below.refl _ _
 go_enter Tryz.func62,Tryz.ntmps62
 go_wp2
 go_ret
 exact⟨rfl,B.out⟩
theorem task_off{c room:Nat}(h:Jq Z w j c p room nb K fr bl d s)(hoff:d.off=true){wv:Value}(ht:Txb w t j fv st wv):Calls Tryz.prog 62 #[.pointer (some ⟨t,0,none⟩)] w fun e w'=>e=.returned (.int .i64 24)/\Below w.heap.size w w':=by
 have H:=hid (power_any h (ht.cell 0))
 rw[hoff]at H
 clear h ht
 go_enter Tryz.func62,Tryz.ntmps62
 go_wp2_with fail
 refine Calls.mono H.out ?_
 rintro e w1 ⟨rfl,b1⟩
 have B1:=hid b1
 clear b1 H
 go_wp2
 go_ret
 exact⟨rfl,B1.out⟩
theorem task_over0{c room:Nat}(h:Jq Z w j c p room nb K fr bl d s)(hon:d.off=false){wv:Value}(ht:Txb w t j fv st wv)(hs:Stb w st j (.pointer none)):Calls Tryz.prog 62 #[.pointer (some ⟨t,0,none⟩)] w fun e w'=>e=.returned (.int .i64 51)/\Below w.heap.size w w':=by
 have H:=hid (power_any h (ht.cell 0))
 rw[hon]at H
 have HC:Hid (∀w',Below w.heap.size w w'->w'.cell? ⟨t,2,none⟩=some (.pointer (some ⟨st,0,none⟩))/\w'.cell? ⟨st,2,none⟩=some (.pointer none)):=fun w' b=>⟨(b.cell (p:=⟨t,2,none⟩) ht.lt).trans (ht.cell 2),(b.cell (p:=⟨st,2,none⟩) hs.lt).trans (hs.cell 2)⟩
 clear h ht hs
 go_enter Tryz.func62,Tryz.ntmps62
 go_wp2_with fail
 refine Calls.mono H.out ?_
 rintro e w1 ⟨rfl,b1⟩
 obtain⟨c2,c3⟩:=HC.out w1 b1
 have hq:=neq_tnil w1 ⟨t,0,none⟩
 have B1:=hid b1
 clear b1 H HC
 go_wp2
 go_ret
 exact⟨rfl,B1.out⟩
theorem task_over1{c room:Nat}(h:Jq Z w j c p room nb K fr bl d s)(hon:d.off=false){t2:Nat}{wv:Value}(ht:Txb w t j fv st wv)(hs:Stb w st j (.pointer (some ⟨t2,0,none⟩))){fv2 wv2:Value}(ht2:Txb w t2 j fv2 st wv2)(hne:t2≠t):Calls Tryz.prog 62 #[.pointer (some ⟨t,0,none⟩)] w fun e w'=>e=.returned (.int .i64 51)/\Below w.heap.size w w':=by
 have H:=hid (power_any h (ht.cell 0))
 rw[hon]at H
 have HC:Hid (∀w',Below w.heap.size w w'->w'.cell? ⟨t,2,none⟩=some (.pointer (some ⟨st,0,none⟩))/\w'.cell? ⟨st,2,none⟩=some (.pointer (some ⟨t2,0,none⟩))/\(binOp .neq 81 (.pointer (some ⟨t2,0,none⟩)) (.pointer (some ⟨t,0,none⟩))).run Tryz.prog w'=.ok (.bool true) w'):=fun w' b=>⟨(b.cell (p:=⟨t,2,none⟩) ht.lt).trans (ht.cell 2),(b.cell (p:=⟨st,2,none⟩) hs.lt).trans (hs.cell 2),neq_tother hne (ht2.keep (b.block t2 ht2.lt)) (ht.keep (b.block t ht.lt))⟩
 clear h ht hs ht2
 go_enter Tryz.func62,Tryz.ntmps62
 go_wp2_with fail
 refine Calls.mono H.out ?_
 rintro e w1 ⟨rfl,b1⟩
 obtain⟨c2,c3,hq⟩:=HC.out w1 b1
 have B1:=hid b1
 clear b1 H HC
 go_wp2
 go_ret
 exact⟨rfl,B1.out⟩
theorem sread_no{v:Value}{code:Int}(HS:Calls Tryz.prog 25 #[v] w fun e w'=>e=.returned (.int .i64 code)/\Below w.heap.size w w')(hc:(code != 0)=true)(y:Int):Calls Tryz.prog 27 #[v,.int .i64 y] w fun e w'=>e=.returned (.tuple #[.slice none 0 0,.int .i64 code])/\Below w.heap.size w w':=by
 have HS:=hid HS
 go_enter Tryz.func27,Tryz.ntmps27
 go_wp2_with fail
 refine Calls.mono HS.out ?_
 rintro e w1 ⟨rfl,b1⟩
 have B1:=hid b1
 clear b1 HS
 go_wp2
 go_ret2
 exact⟨rfl,B1.out⟩
theorem sbegin_no{v:Value}{code:Int}(HS:Calls Tryz.prog 25 #[v] w fun e w'=>e=.returned (.int .i64 code)/\Below w.heap.size w w')(hc:(code != 0)=true):Calls Tryz.prog 26 #[v] w fun e w'=>e=.returned (.tuple #[.pointer none,.int .i64 code])/\Below w.heap.size w w':=by
 have HS:=hid HS
 go_enter Tryz.func26,Tryz.ntmps26
 go_wp2_with fail
 refine Calls.mono HS.out ?_
 rintro e w1 ⟨rfl,b1⟩
 have B1:=hid b1
 clear b1 HS
 go_wp2
 go_ret2
 exact⟨rfl,B1.out⟩
theorem sflush_no{v:Value}{code:Int}(HS:Calls Tryz.prog 25 #[v] w fun e w'=>e=.returned (.int .i64 code)/\Below w.heap.size w w')(hc:(code != 0)=true):Calls Tryz.prog 30 #[v] w fun e w'=>e=.returned (.int .i64 code)/\Below w.heap.size w w':=by
 have HS:=hid HS
 go_enter Tryz.func30,Tryz.ntmps30
 go_wp2_with fail
 refine Calls.mono HS.out ?_
 rintro e w1 ⟨rfl,b1⟩
 have B1:=hid b1
 clear b1 HS
 go_wp2
 go_ret
 exact⟨rfl,B1.out⟩
theorem tread_no{v:Value}{code:Int}(HS:Calls Tryz.prog 62 #[v] w fun e w'=>e=.returned (.int .i64 code)/\Below w.heap.size w w')(hc:(code != 0)=true)(y:Int):Calls Tryz.prog 28 #[v,.int .i64 y] w fun e w'=>e=.returned (.tuple #[.slice none 0 0,.int .i64 code])/\Below w.heap.size w w':=by
 have HS:=hid HS
 go_enter Tryz.func28,Tryz.ntmps28
 go_wp2_with fail
 refine Calls.mono HS.out ?_
 rintro e w1 ⟨rfl,b1⟩
 have B1:=hid b1
 clear b1 HS
 go_wp2
 go_ret2
 exact⟨rfl,B1.out⟩
theorem twrite_no{v:Value}{code:Int}(HS:Calls Tryz.prog 62 #[v] w fun e w'=>e=.returned (.int .i64 code)/\Below w.heap.size w w')(hc:(code != 0)=true)(y:Int)(dv:Value):Calls Tryz.prog 32 #[v,.int .i64 y,dv] w fun e w'=>e=.returned (.int .i64 code)/\Below w.heap.size w w':=by
 have HS:=hid HS
 go_enter Tryz.func32,Tryz.ntmps32
 go_wp2_with fail
 refine Calls.mono HS.out ?_
 rintro e w1 ⟨rfl,b1⟩
 have B1:=hid b1
 clear b1 HS
 go_wp2
 go_ret
 exact⟨rfl,B1.out⟩
theorem tmark_no{v:Value}{code:Int}(HS:Calls Tryz.prog 62 #[v] w fun e w'=>e=.returned (.int .i64 code)/\Below w.heap.size w w')(hc:(code != 0)=true):Calls Tryz.prog 29 #[v] w fun e w'=>e=.returned (.tuple #[.int .i64 0,.int .i64 code])/\Below w.heap.size w w':=by
 have HS:=hid HS
 go_enter Tryz.func29,Tryz.ntmps29
 go_wp2_with fail
 refine Calls.mono HS.out ?_
 rintro e w1 ⟨rfl,b1⟩
 have B1:=hid b1
 clear b1 HS
 go_wp2
 go_ret2
 exact⟨rfl,B1.out⟩
theorem tback_no{v:Value}{code:Int}(HS:Calls Tryz.prog 62 #[v] w fun e w'=>e=.returned (.int .i64 code)/\Below w.heap.size w w')(hc:(code != 0)=true)(k:Int):Calls Tryz.prog 33 #[v,.int .i64 k] w fun e w'=>e=.returned (.int .i64 code)/\Below w.heap.size w w':=by
 have HS:=hid HS
 go_enter Tryz.func33,Tryz.ntmps33
 go_wp2_with fail
 refine Calls.mono HS.out ?_
 rintro e w1 ⟨rfl,b1⟩
 have B1:=hid b1
 clear b1 HS
 go_wp2
 go_ret
 exact⟨rfl,B1.out⟩
theorem tcommit_no{v:Value}{code:Int}(HS:Calls Tryz.prog 62 #[v] w fun e w'=>e=.returned (.int .i64 code)/\Below w.heap.size w w')(hc:(code != 0)=true):Calls Tryz.prog 34 #[v] w fun e w'=>e=.returned (.int .i64 code)/\Below w.heap.size w w':=by
 have HS:=hid HS
 go_enter Tryz.func34,Tryz.ntmps34
 go_wp2_with fail
 refine Calls.mono HS.out ?_
 rintro e w1 ⟨rfl,b1⟩
 have B1:=hid b1
 clear b1 HS
 go_wp2
 go_ret
 exact⟨rfl,B1.out⟩
theorem tabort_no{v:Value}{code:Int}(HS:Calls Tryz.prog 62 #[v] w fun e w'=>e=.returned (.int .i64 code)/\Below w.heap.size w w')(hc:(code != 0)=true):Calls Tryz.prog 35 #[v] w fun e w'=>e=.returned (.int .i64 code)/\Below w.heap.size w w':=by
 have HS:=hid HS
 go_enter Tryz.func35,Tryz.ntmps35
 go_wp2_with fail
 refine Calls.mono HS.out ?_
 rintro e w1 ⟨rfl,b1⟩
 have B1:=hid b1
 clear b1 HS
 go_wp2
 go_ret
 exact⟨rfl,B1.out⟩
theorem sbegin_open{c room:Nat}(h:Jq Z w j c p room nb K fr bl d s)(hon:d.off=false){a:Addr}(hs:Stb w st j (.pointer (some a))):Calls Tryz.prog 26 #[.pointer (some ⟨st,0,none⟩)] w fun e w'=>e=.returned (.tuple #[.pointer none,.int .i64 50])/\Below w.heap.size w w':=by
 have H:=hid (sask_any h hs)
 rw[hon]at H
 have HC:Hid (∀w',Below w.heap.size w w'->w'.cell? ⟨st,2,none⟩=some (.pointer (some a))):=fun w' b=>(b.cell (p:=⟨st,2,none⟩) hs.lt).trans (hs.cell 2)
 clear h hs
 go_enter Tryz.func26,Tryz.ntmps26
 go_wp2_with fail
 refine Calls.mono H.out ?_
 rintro e w1 ⟨rfl,b1⟩
 have c3:=HC.out w1 b1
 have B1:=hid b1
 clear b1 H HC
 go_wp2
 go_ret2
 exact⟨rfl,B1.out⟩
theorem look_jfar{c room:Nat}(h:Jq Z w j c p room nb K fr bl d s)(h1:fr+bl<=nb)(hon:d.off=false)(y:Int)(hh:homeC nb fr bl y≠0)(hc:w.cell? ⟨b,1,none⟩=some (.iface 76 (.pointer (some ⟨j,0,none⟩)))):Calls Tryz.prog 61 #[.pointer (some ⟨b,0,none⟩),.int .i64 y] w fun e w'=>e=.returned (.tuple #[.slice none 0 0,.int .i64 42])/\Below w.heap.size w w':=by
 have H:=hid (Read_far h h1 hon y hh)
 rw[homeC_forty hh]at H
 have hm:=readJ (.pointer (some ⟨j,0,none⟩))
 clear h hh
 go_enter Tryz.func61,Tryz.ntmps61
 go_wp2_with (simp only[hm])
 refine Calls.mono H.out ?_
 rintro e w1 ⟨rfl,b1⟩
 have B1:=hid b1
 clear b1 H
 go_wp2
 go_ret2
 exact⟨rfl,B1.out⟩
end Go.Proofs.YthfojpcibnfmgaaGreat
