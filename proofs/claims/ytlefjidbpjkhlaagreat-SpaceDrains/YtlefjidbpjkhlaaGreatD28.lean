import Derived.Test.YtlefjidbpjkhlaaGreatD27
import Derived.Test.YtlefjidbpjkhlaaGreatD24
import Derived.Test.YtlefjidbpjkhlaaGreatD02
import Derived.Laws.Rows
import Derived.Test.YtlefjidbpjkhlaaGreatD00
import Derived.Test.YtlefjidbpjkhlaaGreatD21
import Derived.Deep.RegionHeld3
import Derived.Deep.DeepCutAuto
set_option maxRecDepth 100000
set_option maxHeartbeats 16000000
namespace Go.Proofs.YtlefjidbpjkhlaaGreat
variable {X Y Z Z' Zw:Nat->Prop}
variable {w w' w2 w3:World}
variable {K N b bl c cp f j k lo p st:Nat}
variable {D:DataW (Nat×Nat×Int)}
variable {mv sv:Value}
variable {L:Nat->Option (List Int)}
variable {d:Pd}
variable {s:Js}
variable {Ts:List Tn}
open Go.RowKit Go.Deep
theorem puts_rd{g:Nat}{qs:List Pm}(hrow:w3.ownsRow w.heap.size 144 2 (.slice (some ⟨g,0,none⟩) N cp) N (pmCells qs))(hq:∀p∈qs,PutOf Zw w p)(hb:But Y w w3)(hY:∀k,k<w.heap.size->Zw k->¬Y k)(hZ:∀k,k<w.heap.size->Zw k->¬Z k)(hZg:¬Z g):RdP Z w3 (some ⟨g,0,none⟩) qs:=by
 refine⟨fun p hp=>?_,.inr ⟨g,0,rfl,(World.ownsRow.lt hrow g rfl).2,hZg,fun t p hp=>?_⟩⟩
 ·obtain⟨b,e1,e2,e3,e4,e5⟩:=hq p hp
  rw[e1,e5]
  exact (e3.keep (hb.block b e3.lt (hY b e3.lt e2))).rdn e4 (hZ b e3.lt e2)
 ·have hc:=World.ownsRow.cells hrow (g:=g) rfl
  obtain⟨r1,r2⟩:=pmCells_get qs t p hp
  have s1:=hc _ _ r1
  have s2:=hc _ _ r2
  rw[Addr.add_lit]at s1 s2
  exact⟨s1,s2⟩
def CmP (Z Zw:Nat->Prop) (w:World) (j c p room nb K fr bl:Nat) (d:Pd) (s:Js) (L:Nat->Option (List Int)) (t st:Nat) (e:Ending) (w':World):Prop :=
 ∃w3,Txb w3 t j .nilIface st (.pointer none)/\Stb w3 st j (.pointer none)/\But (fun k=>k=st\/k=t) w w3 /\
  ((homeKeys nb L=[]/\e=.returned (.int .i64 0)/\w'=w3)\/(homeKeys nb L≠[]/\∃qs,qs.map Pm.say=(homeKeys nb L).map (fun (y:Nat)=>((y:Int),(L y).getD []))/\(∀p∈qs,PutOf Zw w p)/\AppP (fun k=>Z k/\k<w.heap.size) w3 j c p room nb K fr bl d s qs e w'))
theorem commit_any{x room nb fr m n:Nat}{a:Nat->Option (Nat×Nat×Int)}(h:Jq Z w j c p room nb K fr bl d s)(hj:Jn nb fr bl s)(hW:Wq Zw w x j m n nb fr bl D a sv mv L)(hZ:∀k,k<w.heap.size->Zw k->¬Z k)(hon:d.off=false)(hl:d.puts.length+nb+bl+bl+16<=1073741823)(hnb:nb<=524288){t:Nat}(ht:Txb w t j (.iface 83 (.pointer (some ⟨x,0,none⟩))) st (.pointer (some ⟨x,0,none⟩)))(hs:Stb w st j (.pointer (some ⟨t,0,none⟩)))(hne:st≠t)(hZt:¬Z t)(hZs:¬Z st)(hwt:¬Zw t)(hws:¬Zw st) :
  Calls Tryz.prog 13 #[.pointer (some ⟨t,0,none⟩)] w (CmP Z Zw w j c p room nb K fr bl d s L t st):=by
 obtain⟨PO,hPO⟩:∃PO:Ending->World->Prop,PO=CmP Z Zw w j c p room nb K fr bl d s L t st:=⟨_,rfl⟩
 rw[<- hPO]
 have HA:=hid (task_open h hon ht hs)
 have HT:Hid (∀w1,Below w.heap.size w w1->w1.cell? ⟨t,3,none⟩=some (.pointer (some ⟨x,0,none⟩))):=fun w1 b=>(b.cell (p:=⟨t,3,none⟩) ht.lt).trans (ht.cell 3)
 have HPu:Hid (∀w1,Below w.heap.size w w1->Calls Tryz.prog 41 #[.pointer (some ⟨x,0,none⟩)] w1 fun e w'=>∃g cp qs,e=.returned (.slice (some ⟨g,0,none⟩) (homeKeys nb L).length cp)/\w1.heap.size<=g/\g<w'.heap.size/\qs.map Pm.say=(homeKeys nb L).map (fun (y:Nat)=>((y:Int),(L y).getD []))/\w'.ownsRow w1.heap.size 144 2 (.slice (some ⟨g,0,none⟩) (homeKeys nb L).length cp) (homeKeys nb L).length (pmCells qs)/\(∀p∈qs,PutOf (fun k=>Zw k/\k<w.heap.size) w1 p)/\Below w1.heap.size w1 w'):=fun w1 b=>by
  refine puts_any (sv:=sv) (mv:=mv) (x:=x) (j:=j) (m:=m) (n:=n) (nb:=nb) (fr:=fr) (bl:=bl) (D:=D) (a:=a) (L:=L) ?_ hnb
  exact⟨(hW.keep (w':=w1) (fun k _ hk=>b.block k hk)).blk,(hW.keep (w':=w1) (fun k _ hk=>b.block k hk)).mp,hW.am,fun y g cp k e=>by
   obtain⟨zs,q1,q2,q3,q4,q5⟩:=hW.dat y g cp k e
   exact⟨zs,q1,q2.keep (b.block g q2.lt),q3,q4,q5,q2.lt⟩,hW.non,⟨hW.zx,hW.lt⟩,⟨hW.zm,hW.mp.lt⟩⟩
 have HE:Hid (∀w2,Below w.heap.size w w2->Calls Tryz.prog 42 #[.pointer (some ⟨t,0,none⟩)] w2 fun e w'=>e=.returned (.tuple #[])/\Txb w' t j .nilIface st (.pointer none)/\Stb w' st j (.pointer none)/\But (fun k=>k=st\/k=t) w2 w'):=fun w2 b=>end_any (ht.keep (b.block t ht.lt)) (hs.keep (b.block st hs.lt)) hne
 have HF0:Hid (∀w3,Txb w3 t j .nilIface st (.pointer none)->Stb w3 st j (.pointer none)->But (fun k=>k=st\/k=t) w w3->homeKeys nb L=[]->PO (.returned (.int .i64 0)) w3):=fun w3 q1 q2 q3 q4=>by
  rw[hPO];exact⟨w3,q1,q2,q3,.inl ⟨q4,rfl,rfl⟩⟩
 have HF1:Hid (∀w1 w2 w3 g cp qs,Below w.heap.size w w1->Below w1.heap.size w1 w2->But (fun k=>k=st\/k=t) w2 w3->Txb w3 t j .nilIface st (.pointer none)->Stb w3 st j (.pointer none)->w1.heap.size<=g->w2.ownsRow w1.heap.size 144 2 (.slice (some ⟨g,0,none⟩) (homeKeys nb L).length cp) (homeKeys nb L).length (pmCells qs)->qs.map Pm.say=(homeKeys nb L).map (fun (y:Nat)=>((y:Int),(L y).getD []))->(∀p∈qs,PutOf (fun k=>Zw k/\k<w.heap.size) w1 p)->homeKeys nb L≠[]->Calls Tryz.prog 43 #[.pointer (some ⟨j,0,none⟩),.slice (some ⟨g,0,none⟩) (homeKeys nb L).length cp] w3 fun e w'=>(∃code,e=.returned (.int .i64 code))/\PO e w'):=fun w1 w2 w3 g cp qs b1 b2 b3 q1 q2 q3 q4 q5 q6 q7=>by
  have s1:=b1.size
  have s2:=b2.size
  have stl:=hs.lt
  have ttl:=ht.lt
  have q6':∀p∈qs,PutOf Zw w p:=fun p hp=>by
   obtain⟨b,e1,e2,e3,e4,e5⟩:=q6 p hp
   exact⟨b,e1,e2.1,e3.keep (b1.block b e2.2).symm,e4,e5⟩
  have q4':w3.ownsRow w1.heap.size 144 2 (.slice (some ⟨g,0,none⟩) (homeKeys nb L).length cp) (homeKeys nb L).length (pmCells qs):=owns_keep q4 (fun k e=>b3.block k (World.ownsRow.lt q4 k e).2 (fun e2=>by
   have:=(World.ownsRow.lt q4 k e).1
   rcases e2 with e2 | e2 <;> omega))
  have bb:But (fun k=>k=st\/k=t) w w3:=(But.of_below (b1.trans (b2.mono s1)) (X:=fun k=>k=st\/k=t)).comp b3 (fun _ _ q=>q)
  have bb1:But (fun k=>k=st\/k=t) w1 w3:=(But.of_below b2 (X:=fun k=>k=st\/k=t)).comp b3 (fun _ _ q=>q)
  have hlen:qs.length=(homeKeys nb L).length:=by
   have:=congrArg List.length q5
   simpa using this
  have hkl:=length_homeKeys nb L
  have hrd:RdP (fun k=>Z k/\k<w.heap.size) w3 (some ⟨g,0,none⟩) qs:=puts_rd (w:=w1) q4' q6 bb1 (fun k hk e e2=>e2.elim (fun q=>hws (q ▸ e.1)) (fun q=>hwt (q ▸ e.1))) (fun k hk e e2=>hZ k e.2 e.1 e2.1) (fun e=>by omega)
  have hA:=Append_on (h.cut.but bb (fun k hk e e2=>e2.elim (fun q=>hZs (q ▸ e.1)) (fun q=>hZt (q ▸ e.1)))) hj hon (some ⟨g,0,none⟩) cp qs hrd (by omega) hl
  rw[hlen]at hA
  refine Calls.mono hA ?_
  intro e w' r
  refine⟨?_,?_⟩
  ·by_cases hc:appC nb fr bl d s qs=0
   ·exact⟨_,(r.1 hc).1⟩
   ·exact⟨_,(r.2 hc).1⟩
  rw[hPO]
  exact⟨w3,q1,q2,bb,.inr ⟨q7,qs,q5,q6',r⟩⟩
 clear h hj hW hZ hs ht hPO hZt hZs hwt hws
 go_enter Tryz.func13,Tryz.ntmps13
 go_wp2_with fail
 refine Calls.mono HA.out ?_
 rintro e w1 ⟨rfl,b1⟩
 have B1:=hid b1
 have k3:=HT.out w1 b1
 have HP1:=hid (HPu.out w1 b1)
 clear b1 HA HT HPu
 go_wp2_with fail
 refine Calls.mono HP1.out ?_
 rintro e w2 ⟨g,cp,qs,rfl,hg,hgl,hq,hrow,hqs,b2⟩
 have B2:=hid b2
 have HE2:=hid (HE.out w2 (B1.out.trans (b2.mono B1.out.size)))
 have HQ:=hid (And.intro hg (And.intro hq (And.intro hrow hqs)))
 clear HP1 HE hg hgl hq hrow hqs b2 k3
 go_wp2_with fail
 refine Calls.mono HE2.out ?_
 rintro e w3 ⟨rfl,ht3,hs3,b3⟩
 have k0:=ht3.cell 0
 simp at k0
 have hkl:=length_homeKeys nb L
 by_cases hk:homeKeys nb L=[]
 ·have FIN:=hid (HF0.out w3 ht3 hs3 ((But.of_below (B1.out.trans (B2.out.mono B1.out.size)) (X:=fun k=>k=st\/k=t)).comp b3 (fun _ _ q=>q)) hk)
  have hN:(homeKeys nb L).length=0:=by rw[hk];rfl
  clear HF0 HF1 HQ b3 HE2 ht3 hs3 B1 B2 hk
  generalize (homeKeys nb L).length=N at *
  subst hN
  go_wp2
  exact FIN.out
 ·have HC:=hid (HF1.out w1 w2 w3 g cp qs B1.out B2.out b3 ht3 hs3 HQ.out.1 HQ.out.2.2.1 HQ.out.2.1 HQ.out.2.2.2 hk)
  have hN:0<(homeKeys nb L).length:=List.length_pos_iff.2 hk
  clear HF0 HF1 HQ b3 HE2 ht3 hs3 B1 B2 hk
  generalize (homeKeys nb L).length=N at *
  have hN':¬(N:Int)=0:=by omega
  go_wp2_with fail
  refine Calls.mono HC.out ?_
  rintro e w4 ⟨⟨code,rfl⟩,r⟩
  have FIN:=hid r
  clear r HC
  go_wp2
  exact FIN.out
open Go.RowKit Go.Deep
theorem isB_zeros'(n:Nat):Pl.isB (zeros n):=fun z hz=>by
 have:=List.eq_of_mem_replicate hz
 omega
theorem dnew_any(nb:Nat)(lo:1<=nb)(hi:nb<=524288)(w:World) :
  Calls Tryz.prog 34 #[.int .i64 (nb:Int)] w fun e w'=>∃p,e=.returned (.tuple #[.pointer (some ⟨p,0,none⟩),.int .i64 0])/\w.heap.size<=p/\Dk (fun x=>w.heap.size<=x) w' p (zeros (512 * nb)) [] (-1) false nb/\Below w.heap.size w w':=by
 obtain⟨PO,hPO⟩:∃PO:Ending->World->Prop,PO=fun e w'=>∃p,e=.returned (.tuple #[.pointer (some ⟨p,0,none⟩),.int .i64 0])/\w.heap.size<=p/\Dk (fun x=>w.heap.size<=x) w' p (zeros (512 * nb)) [] (-1) false nb/\Below w.heap.size w w':=⟨_,rfl⟩
 rw[<- hPO]
 have hmk:(Instr.makeSlice 65 (.int .i64 ((nb:Int) * 512)) (.int .i64 ((nb:Int) * 512))).run Tryz.prog w=.ok (.slice (some ⟨w.heap.size,0,none⟩) (512 * nb) (512 * nb)) (w.alloc (.cells ((zeros (512 * nb)).map (Value.int .u8)).toArray 5)):=by
  have:=make_u8 (512 * nb) (by omega) w
  rw[show ((512 * nb:Nat):Int)=(nb:Int) * 512 by omega]at this
  exact this
 have HD:Hid (Calls Tryz.prog 67 #[.slice (some ⟨w.heap.size,0,none⟩) (512 * nb) (512 * nb)] (w.alloc (.cells ((zeros (512 * nb)).map (Value.int .u8)).toArray 5)) fun e w'=>∃p,e=.returned (.pointer (some ⟨p,0,none⟩))/\PO (.returned (.tuple #[.pointer (some ⟨p,0,none⟩),.int .i64 0])) w'):=by
  have ho:Own (w.alloc (.cells ((zeros (512 * nb)).map (Value.int .u8)).toArray 5)) w.heap.size (512 * nb) (512 * nb) (zeros (512 * nb)):=Own.of_blk (Array.getElem?_push_size) (by simp[zeros]) (by unfold maxLen;omega)
  refine Calls.mono (diskOf_any ho (isB_zeros' _) lo hi) ?_
  rintro e w' ⟨p,rfl,h1,h2,h3⟩
  refine⟨p,rfl,?_⟩
  rw[hPO]
  have s1:(w.alloc (.cells ((zeros (512 * nb)).map (Value.int .u8)).toArray 5)).heap.size=w.heap.size+1:=by simp
  exact⟨p,rfl,by omega,h2.mono (fun k q=>by rcases q with q | q <;> omega),((Below.refl w.heap.size w).alloc (Nat.le_refl _) _).trans (h3.mono (by omega))⟩
 have hn1:¬(nb:Int)<1:=by omega
 have hn2:¬(524288:Int)<(nb:Int):=by omega
 clear hPO
 go_enter Tryz.func34,Tryz.ntmps34
 go_wp2_with fail
 refine Calls.mono HD.out ?_
 rintro e w1 ⟨p,rfl,q⟩
 have FIN:=hid q
 clear q HD
 go_wp2
 exact FIN.out
theorem topen_any{room nb fr:Nat}(h:Jq Z w j c p room nb K fr bl d s)(hon:d.off=false) :
  Calls Tryz.prog 71 #[.pointer (some ⟨j,0,none⟩)] w fun e w'=>∃st,e=.returned (.tuple #[.pointer (some ⟨st,0,none⟩),.int .i64 0])/\w.heap.size<=st/\Stb w' st j (.pointer none)/\Below w.heap.size w w':=by
 obtain⟨PO,hPO⟩:∃PO:Ending->World->Prop,PO=fun e w'=>∃st,e=.returned (.tuple #[.pointer (some ⟨st,0,none⟩),.int .i64 0])/\w.heap.size<=st/\Stb w' st j (.pointer none)/\Below w.heap.size w w':=⟨_,rfl⟩
 rw[<- hPO]
 obtain⟨w1,hw1⟩:∃w1,w1=w.alloc (.cells #[.pointer (some ⟨j,0,none⟩),.iface 76 (.pointer (some ⟨j,0,none⟩)),.pointer none] 82):=⟨_,rfl⟩
 have b1:Below w.heap.size w w1:=by rw[hw1];exact (Below.refl _ _).alloc (Nat.le_refl _) _
 have s1:Stb w1 w.heap.size j (.pointer none):=by rw[hw1];exact Array.getElem?_push_size
 have HA:Hid (Calls Tryz.prog 37 #[.pointer (some ⟨w.heap.size,0,none⟩)] w1 fun e w'=>e=.returned (.int .i64 0)/\PO (.returned (.tuple #[.pointer (some ⟨w.heap.size,0,none⟩),.int .i64 0])) w'):=by
  have hA:=sask_any (h.below b1) s1
  rw[hon]at hA
  refine Calls.mono hA ?_
  rintro e w' ⟨rfl,b2⟩
  refine⟨rfl,?_⟩
  rw[hPO]
  exact⟨w.heap.size,rfl,Nat.le_refl _,s1.keep (b2.block _ s1.lt),b1.trans (b2.mono b1.size)⟩
 have HW:Hid (w1=w.alloc (.cells #[.pointer (some ⟨j,0,none⟩),.iface 76 (.pointer (some ⟨j,0,none⟩)),.pointer none] 82)):=hw1
 clear h hPO b1 s1 hw1
 go_enter Tryz.func71,Tryz.ntmps71
 go_wp2_with fail
 rw[<- HW.out]
 refine Calls.mono HA.out ?_
 rintro e w2 ⟨rfl,q⟩
 have FIN:=hid q
 clear q HA HW
 go_wp2
 exact FIN.out
open Go.RowKit
theorem OpenP.anew{room nb:Nat}{home:Nat->List Int}{e:Ending}(H:OpenP Z w c p room nb K d (f:Int) (b:Int) e w')(h:On d s nb f b lo home Ts)(hfu:d.fu=-1)(hf:d.Fits nb)(hlo:16<=b)(hfit:f+b<=nb)(hnb:nb<=524288) :
  But Z w w'/\∃j Z' d' s',e=.returned (.tuple #[.pointer (some ⟨j,0,none⟩),.int .i64 0])/\w.heap.size<=j/\Gr Z Z' w/\d'.fu=-1/\Jq Z' w' j c p room nb K f b d' s'/\On d' s' nb f b Ts.length home Ts:=by
 have hset:=h.settle hf hlo hfit hnb
 obtain⟨q,base,ts,k,hn⟩:=h.nm
 obtain⟨h1,h2,h3⟩:=hn.again hnb hfit
 obtain⟨b1,jv,code,rfl,kk⟩:=H
 have hlc:layC d nb (f:Int) (b:Int)=0:=by
  unfold layC
  rw[h.on,if_neg (by simp)]
  exact placeC_ok hlo hfit hnb
 refine⟨b1,?_⟩
 rcases kk with ⟨k1,_⟩ | ⟨_,f',b',ef,eb,_,_,kk⟩
 ·exact absurd hlc k1
 ·have ef':f'=f:=by omega
  have eb':b'=b:=by omega
  subst ef' eb'
  rcases kk with ⟨_,_,k | ⟨l',q',k1,k2⟩,_⟩ | ⟨l',q',k1,k2,k3,Z',k4,k5⟩
  ·rw[h1]at k;cases k
  ·rw[h1]at k1
   cases k1
   rw[h2]at k2
   exact absurd h3 k2
  ·rw[h1]at k1
   cases k1
   rw[h2]at k3 k5
   obtain⟨f1,_,f3⟩:=Pd.runs_free h.on hfu (settleCmds nb f' b' s)
   rcases k5 with ⟨k6,_⟩ | ⟨k6,j,k7,k8,k9⟩
   ·exact absurd (k3.trans f1) k6
   ·subst k6 k7
    exact⟨j,Z',_,_,rfl,k8,k4,f3,k9,(hset.1 f1).1⟩
open Go.RowKit Go.Deep
theorem Cq.new'{room nb:Nat}(hD:Dk Z w2 p d.img d.puts d.fu d.off nb)(hC:Cst (fun k=>w2.heap.size<=k) w3 c p room 0 0 [])(hb:Below w2.heap.size w2 w3):Cq (fun k=>(Z k\/w2.heap.size<=k)/\k<w3.heap.size) w3 c p room nb 0 d:=by
 refine⟨fun k=>Z k/\k<w2.heap.size,fun k=>w2.heap.size<=k/\k<w3.heap.size,0,0,[],⟨hC.cut,hD.cut.keep (fun k _ hk=>hb.block k hk),fun k q q'=>by omega⟩,fun k q=>⟨.inl q.1,Nat.lt_of_lt_of_le q.2 hb.size⟩,fun k q=>⟨.inr q.1,q.2⟩,fun k q=>q.2,Good.nil _ _ _,⟨by omega,by omega⟩,⟨by omega,by omega⟩⟩
open Go.RowKit Go.Deep
open Go.RowKit Go.Deep
open Go.RowKit Go.Deep
open Go.RowKit Go.Deep
open Go.RowKit Go.Deep
open Go.RowKit Go.Deep
theorem homeKeys_succ(nb:Nat)(L:Nat->Option (List Int)):homeKeys (nb+1) L=homeKeys nb L++(if (L nb).isSome then [nb] else []):=by
 unfold homeKeys
 rw[List.range_succ,List.filter_append]
 congr 1
 by_cases h:(L nb).isSome=true <;> simp[h]
def putsL (nb:Nat) (L:Nat->Option (List Int)):List (Nat×List Int):=(homeKeys nb L).map (fun y=>(y,(L y).getD []))
theorem ahead_putsL(nb:Nat)(L:Nat->Option (List Int))(x:Nat):aheadP (fun _=>none) (putsL nb L) x=if x<nb then L x else none:=by
 induction nb with
 | zero=>simp[putsL,homeKeys,aheadP]
 | succ nb ih=>
  unfold putsL at ih ⊢
  rw[homeKeys_succ,List.map_append]
  cases hL:L nb with
  | none=>
   simp only[Option.isSome_none,Bool.false_eq_true,if_false,List.map_nil,List.append_nil]
   rw[ih]
   by_cases h:x<nb
   ·rw[if_pos h,if_pos (by omega)]
   ·rw[if_neg h]
    by_cases h2:x=nb
    ·rw[if_pos (by omega),h2,hL]
    ·rw[if_neg (by omega)]
  | some zs=>
   simp only[Option.isSome_some,if_true,List.map_cons,List.map_nil,hL,Option.getD_some]
   rw[aheadP_snoc]
   simp only
   by_cases h2:x=nb
   ·rw[if_pos h2,if_pos (by omega),h2,hL]
   ·rw[if_neg h2,ih]
    by_cases h:x<nb
    ·rw[if_pos h,if_pos (by omega)]
    ·rw[if_neg h,if_neg (by omega)]
theorem contT_putsL(home:Nat->List Int)(Ts:List Tn)(nb:Nat)(L:Nat->Option (List Int)){x:Nat}(hx:x<nb):contT home (Ts++[putsL nb L]) (Ts++[putsL nb L]).length x=(L x).getD (contT home Ts Ts.length x):=by
 unfold contT
 rw[List.take_of_length_le (Nat.le_refl _),List.take_of_length_le (Nat.le_refl _),<- after_append]
 show (aheadP (fun _=>none) ([putsL nb L]:List Tn).flatten x).getD (after home Ts x)=_
 rw[show ([putsL nb L]:List Tn).flatten=putsL nb L by simp,ahead_putsL,if_pos hx]
theorem standP_le(ps:List Pm):(standP ps).length<=ps.length:=by
 suffices H:∀(ps S:List Pm),(ps.foldl standStep S).length<=S.length+ps.length by
  have:=H ps []
  simpa [standP] using this
 intro ps
 induction ps with
 | nil=>intro S;simp
 | cons p ps ih=>
  intro S
  have h1:=ih (standStep S p)
  have h2:(standStep S p).length<=S.length+1:=by
   unfold standStep
   split <;> simp
  simp only[List.foldl_cons,List.length_cons]
  omega
theorem CmP.on{room nb fr:Nat}{t:Nat}{e:Ending}{home:Nat->List Int}(H:CmP Z Zw w j c p room nb K fr bl d s L t st e w')(h:Jq Z w j c p room nb K fr bl d s)(ho:On d s nb fr bl lo home Ts)(hfu:d.fu=-1)(hlo:16<=bl)(hfit:fr+bl<=nb)(hnb:nb<=524288)(hsq:Ts.length<1099511627776)(hk:(homeKeys nb L).length<=bl / 2-4)(hh:∀y,y∈homeKeys nb L->homeC nb fr bl (y:Int)=0)(hZt:¬Z t)(hZs:¬Z st) :
  e=.returned (.int .i64 0)/\Stb w' st j (.pointer none)/\But (fun k=>Z k\/k=st\/k=t) w w'/\∃Z' d' s' Ts',Jq Z' w' j c p room nb K fr bl d' s'/\Gr Z Z' w/\d'.fu=-1/\On d' s' nb fr bl lo home Ts'/\Ts'.length<=Ts.length+1/\∀x,x<nb->contT home Ts' Ts'.length x=(L x).getD (contT home Ts Ts.length x):=by
 obtain⟨w3,q1,q2,q3,q4⟩:=H
 have hsl:=q2.lt
 rcases q4 with ⟨k1,rfl,rfl⟩ | ⟨k1,qs,k2,k3,k4⟩
 ·refine⟨rfl,q2,q3.mono (fun _ _ q=>.inr q),fun k=>Z k/\k<w.heap.size,d,s,Ts,h.cut.but q3 (fun k _ e1 e2=>e2.elim (fun q=>hZs (q ▸ e1.1)) (fun q=>hZt (q ▸ e1.1))),fun k _ q=>q.1,hfu,ho,by omega,fun x hx=>?_⟩
  have:L x=none:=by
   cases hL:L x with
   | none=>rfl
   | some zs=>
    have:x∈homeKeys nb L:=mem_homeKeys.2 ⟨hx,by rw[hL];rfl⟩
    rw[k1]at this
    cases this
  rw[this]
  rfl
 ·have hql:qs.length=(homeKeys nb L).length:=by
   have:=congrArg List.length k2
   simpa using this
  have hput:qs.map Pm.put=putsL nb L:=by
   have:qs.map Pm.put=(qs.map Pm.say).map fun x=>(x.1.toNat,x.2):=by rw[List.map_map];rfl
   rw[this,k2,List.map_map]
   unfold putsL
   refine List.map_congr_left (fun y _=>?_)
   simp
  have hpc:putsC nb fr bl qs=0:=putsC_zero (fun p hp=>by
   have hm:p.say∈qs.map Pm.say:=List.mem_map_of_mem hp
   rw[k2]at hm
   obtain⟨y,hy,e1⟩:=List.mem_map.1 hm
   obtain⟨_,_,_,_,_,e5⟩:=k3 p hp
   have e2:p.at_=(y:Int):=congrArg Prod.fst e1.symm
   unfold putC
   rw[e2,hh y hy,e5]
   simp)
  have hst:=standP_le qs
  have hap:appC nb fr bl d s qs=0:=by
   unfold appC
   rw[ho.on,hpc,if_neg (by decide),if_neg (by simp),if_neg (by omega),if_neg (by have:=ho.sq;omega)]
  have hA:=ho.append h.fits.1 hlo hfit hnb (fun p hp=>by obtain⟨_,_,_,_,e4,_⟩:=k3 p hp;exact e4) hap
  obtain⟨f1,_,f3⟩:=Pd.runs_free ho.on hfu (wlCmds nb fr bl s (appRecs qs))
  obtain⟨r1,⟨Z',s',r2,r3,r4⟩,r5⟩:=k4.1 hap
  rw[f1]at r1
  have hon:=hA.1 f1
  rw[hput,<- r3 f1]at hon
  refine⟨r1,q2.keep (r5.block st hsl (fun e=>hZs e.1)),(q3.mono (fun _ _ q=>.inr q)).comp r5 (fun k _ q=>.inl q.1),Z',_,s',Ts++[putsL nb L],r2,fun k hk q=>(r4 k (Nat.lt_of_lt_of_le hk q3.size) q).1,f3,hon,by simp,fun x hx=>contT_putsL home Ts nb L hx⟩
open Go.RowKit Go.Deep
def grow (Y:Nat->Prop) (w w':World) (k:Nat):Prop:=(Y k/\k<w.heap.size)\/(w.heap.size<=k/\k<w'.heap.size)
theorem grow.gr(Y:Nat->Prop)(w w':World):Gr Y (grow Y w w') w:=fun k hk q=>by
 rcases q with q | q
 ·exact q.1
 ·omega
def StA (Y:Nat->Prop) (w:World) (j c p st nb K fr bl:Nat) (d:Pd) (s:Js):Prop :=
 ∃Z,Jq Z w j c p 16 nb K fr bl d s/\(∀k,Z k->Y k)/\Stb w st j (.pointer none)/\¬Z st/\Y st
def StT (Y:Nat->Prop) (w:World) (j c p st nb K fr bl:Nat) (d:Pd) (s:Js) (t x m n:Nat) (L:Nat->Option (List Int)):Prop :=
 ∃Z Zw D a,Jq Z w j c p 16 nb K fr bl d s/\Wq Zw w x j m n nb fr bl D a (.slice none 0 0) (.slice none 0 0) L/\Txb w t j (.iface 83 (.pointer (some ⟨x,0,none⟩))) st (.pointer (some ⟨x,0,none⟩))/\Stb w st j (.pointer (some ⟨t,0,none⟩))/\(∀k,Z k->Y k)/\(∀k,Zw k->Y k/\¬Z k)/\(∀z g cp k,a z=some (g,cp,k)->g≠m)/\(x≠m/\st≠t)/\(¬Z t/\¬Zw t/\Y t)/\(¬Z st/\¬Zw st/\Y st)
open Go.RowKit Go.Deep
def growZ (Y Z:Nat->Prop) (w w':World) (k:Nat):Prop:=(Y k/\k<w.heap.size)\/(Z k/\w.heap.size<=k/\k<w'.heap.size)
theorem growZ.gr(Y Z:Nat->Prop)(w w':World):Gr Y (growZ Y Z w w') w:=fun k hk q=>by
 rcases q with q | q
 ·exact q.1
 ·omega
theorem growZ.of(hz:∀k,Z k->Y k)(hg:Gr Z Z' w)(hk:Z' k)(hl:k<w'.heap.size):growZ Y Z' w w' k:=by
 rcases Nat.lt_or_ge k w.heap.size with q | q
 ·exact .inl ⟨hz k (hg k q hk),q⟩
 ·exact .inr ⟨hk,q,hl⟩
open Go.RowKit Go.Deep
open Go.RowKit Go.Deep
def StM (Y:Nat->Prop) (w:World) (j c p st nb K fr bl:Nat) (d:Pd) (s:Js) (t x m n:Nat) (a:Nat->Option Wr) (ss:List Sp) (ms:List Mr) (val:Nat->List Int):Prop :=
 ∃Z Zw sv mv,Jq Z w j c p 16 nb K fr bl d s/\Wm Zw w x j m n nb fr bl a sv mv ss ms val/\Txb w t j (.iface 83 (.pointer (some ⟨x,0,none⟩))) st (.pointer (some ⟨x,0,none⟩))/\Stb w st j (.pointer (some ⟨t,0,none⟩))/\(∀k,Z k->Y k)/\(∀k,Zw k->Y k/\¬Z k)/\st≠t/\(¬Z t/\¬Zw t/\Y t)/\(¬Z st/\¬Zw st/\Y st)
theorem StM.step{Zw':Nat->Prop}{nb fr:Nat}{t x m n:Nat}{a:Nat->Option Wr}{ss:List Sp}{ms:List Mr}{val:Nat->List Int}(q3:Txb w t j (.iface 83 (.pointer (some ⟨x,0,none⟩))) st (.pointer (some ⟨x,0,none⟩)))(q4:Stb w st j (.pointer (some ⟨t,0,none⟩)))(q5:∀k,Z k->Y k)(q6:∀k,Zw k->Y k/\¬Z k)(q8:st≠t)(q9:¬Z t/\¬Zw t/\Y t)(q10:¬Z st/\¬Zw st/\Y st)(hJ:Jq Z' w' j c p 16 nb K fr bl d s)(hW:Wm Zw' w' x j m n nb fr bl a sv mv ss ms val)(gZ:Gr Z Z' w)(gW:Gr Zw Zw' w)(hd:∀k,Zw' k->¬Z' k)(lZ:∀k,Z' k->k<w'.heap.size)(lW:∀k,Zw' k->k<w'.heap.size)(hb:But (fun k=>Z k\/Zw k) w w') :
  ∃Y',StM Y' w' j c p st nb K fr bl d s t x m n a ss ms val/\(∀k,Y' k->k<w'.heap.size)/\Gr Y Y' w/\But Y w w':=by
 have hs:=hb.size
 have ht:=q3.lt
 have hst:=q4.lt
 refine⟨growZ Y (fun k=>Z' k\/Zw' k) w w',⟨Z',Zw',sv,mv,hJ,hW,q3.keep (hb.block t ht (fun e=>e.elim q9.1 q9.2.1)),q4.keep (hb.block st hst (fun e=>e.elim q10.1 q10.2.1)),fun k e=>?_,fun k e=>⟨?_,hd k e⟩,q8,⟨fun e=>q9.1 (gZ t ht e),fun e=>q9.2.1 (gW t ht e),.inl ⟨q9.2.2,ht⟩⟩,⟨fun e=>q10.1 (gZ st hst e),fun e=>q10.2.1 (gW st hst e),.inl ⟨q10.2.2,hst⟩⟩⟩,fun k q=>by rcases q with q | q <;> omega,growZ.gr _ _ _ _,hb.mono (fun k _ e=>e.elim (q5 k) (fun e=>(q6 k e).1))⟩
 ·rcases Nat.lt_or_ge k w.heap.size with q | q
  ·exact .inl ⟨q5 k (gZ k q e),q⟩
  ·exact .inr ⟨.inl e,q,lZ k e⟩
 ·rcases Nat.lt_or_ge k w.heap.size with q | q
  ·exact .inl ⟨(q6 k (gW k q e)).1,q⟩
  ·exact .inr ⟨.inr e,q,lW k e⟩
theorem StT.stm{nb fr:Nat}{t x m n:Nat}(h:StT Y w j c p st nb K fr bl d s t x m n (fun _=>none)):StM Y w j c p st nb K fr bl d s t x m n (fun _=>none) [] [] (fun _=>[]):=by
 obtain⟨Z,Zw,D,a,q1,q2,q3,q4,q5,q6,q7,q8,q9,q10⟩:=h
 have ha:a=fun _=>none:=by
  funext y
  cases e:a y with
  | none=>rfl
  | some r=>
   obtain⟨zs,e1,_⟩:=q2.dat y r.1 r.2.1 r.2.2 e
   cases e1
 subst ha
 refine⟨Z,Zw,.slice none 0 0,.slice none 0 0,q1,⟨q2.blk,⟨D,q2.mp,q2.am⟩,⟨rfl,.inl ⟨rfl,rfl⟩⟩,⟨rfl,.inl ⟨rfl,rfl⟩⟩,fun y r q=>?_,fun s hs=>by simp at hs,Mk.nil,q2.zx,q2.zm,fun k e=>by simp[Value.ownBlock]at e,fun k e=>by simp[Value.ownBlock]at e⟩,q3,q4,q5,q6,q8.2,q9,q10⟩
 rcases q with q | ⟨i,pp,b,q,_⟩
 ·cases q
 ·simp at q
def WrM (Y:Nat->Prop) (w:World) (j c p st nb K fr bl:Nat) (d:Pd) (s:Js) (t x m n:Nat) (a:Nat->Option Wr) (ss:List Sp) (ms:List Mr) (val:Nat->List Int) (y:Nat) (zs:List Int) (w':World):Prop :=
 ∃Y' a' ss' val',StM Y' w' j c p st nb (K+1) fr bl d s t x m (n+1) a' ss' ms val'/\LofA a' val'=putL (LofA a val) y zs/\(∀(i p:Nat) (b:Nat->Option Wr),ms[i]?=some (p,b)->LofA b val'=LofA b val)/\ss'.length<=ss.length+1/\(∀k,Y' k->k<w'.heap.size)/\Gr Y Y' w/\But Y w w'
theorem StM.write{nb fr:Nat}{t x m n:Nat}{a:Nat->Option Wr}{ss:List Sp}{ms:List Mr}{val:Nat->List Int}(h:StM Y w j c p st nb K fr bl d s t x m n a ss ms val)(hn:n<=1073741823)(hns:ss.length<=1073741823)(h1:fr+bl<=nb)(hon:d.off=false)(hl:d.puts.length<=1073741824)(hK:K<4611686018427387904)(hnb:nb<=524288)(y:Nat)(hy:y<nb)(hh:homeC nb fr bl (y:Int)=0)(ad:Addr)(cd:Nat)(zs:List Int)(hR:∀w',But Y w w'->Rd w'.heap.size w' (some ad) 512 zs) :
  Calls Tryz.prog 52 #[.pointer (some ⟨t,0,none⟩),.int .i64 (y:Int),.slice (some ad) 512 cd] w fun e w'=>e=.returned (.int .i64 0)/\WrM Y w j c p st nb K fr bl d s t x m n a ss ms val y zs w':=by
 obtain⟨PO,hPO⟩:∃PO:Ending->World->Prop,PO=fun e w'=>e=.returned (.int .i64 0)/\WrM Y w j c p st nb K fr bl d s t x m n a ss ms val y zs w':=⟨_,rfl⟩
 rw[<- hPO]
 obtain⟨Z,Zw,sv,mv,q1,q2,q3,q4,q5,q6,q8,q9,q10⟩:=h
 obtain⟨D,hWq⟩:=q2.wq
 have HA:=hid (task_open q1 hon q3 q4)
 have HL:Hid (∀w1,Below w.heap.size w w1->Calls Tryz.prog 62 #[.pointer (some ⟨t,0,none⟩),.int .i64 (y:Int)] w1 (RdH (fun k=>Z k/\k<w.heap.size) w1 j c p 16 nb K fr bl d s ((LofA a val y).getD (jread d s y)))):=fun w1 b1=>look_w (q1.cut.below b1) (hWq.keep (fun k _ hk=>b1.block k hk)) h1 hon hl hK hnb y hy hh ((b1.cell (p:=⟨t,1,none⟩) q3.lt).trans (q3.cell 1))
 have HP:Hid (∀w1 e w',Below w.heap.size w w1->RdH (fun k=>Z k/\k<w.heap.size) w1 j c p 16 nb K fr bl d s ((LofA a val y).getD (jread d s y)) e w'->RdH Z w j c p 16 nb K fr bl d s ((LofA a val y).getD (jread d s y)) e w'):=fun w1 e w' b q=>q.low b
 have HC:Hid (∀e w',RdH Z w j c p 16 nb K fr bl d s ((LofA a val y).getD (jread d s y)) e w'->w'.cell? ⟨t,3,none⟩=some (.pointer (some ⟨x,0,none⟩))):=fun e w' q=>by
  obtain⟨g,cp,_,_,_,_,_,q8⟩:=q
  exact (q8.cell (p:=⟨t,3,none⟩) q3.lt q9.1).trans (q3.cell 3)
 have HY:Hid (∀e w',RdH Z w j c p 16 nb K fr bl d s ((LofA a val y).getD (jread d s y)) e w'->Calls Tryz.prog 95 #[.pointer (some ⟨x,0,none⟩),.int .i64 (y:Int),.slice (some ad) 512 cd] w' fun e w'=>e=.returned (.tuple #[])/\PO (.returned (.int .i64 0)) w'):=fun e w3 q=>by
  obtain⟨g0,cp0,_,_,_,_,⟨Z',r5,r6,r7⟩,r8⟩:=q
  have s8:=r8.size
  have hW3:Wm (fun k=>Zw k/\k<w.heap.size) w3 x j m n nb fr bl a sv mv ss ms val:=q2.keepZ (fun k q hk=>r8.block k hk (q6 k q).2) (fun k q hk=>⟨q,hk⟩)
  refine Calls.mono (hW3.lay hn hns y hy hh hnb ad cd zs (hR w3 (r8.mono (fun k _ e=>q5 k e)))) ?_
  rintro e w' ⟨rfl,a',sv',ss',val',Zw',u1,u2,u3,u4,u5,u6,u7⟩
  refine⟨rfl,?_⟩
  rw[hPO]
  have s7:=u7.size
  have hJ:Jq (fun k=>Z' k/\k<w3.heap.size) w' j c p 16 nb (K+1) fr bl d s:=r5.cut.but u7 (fun k _ e1 e2=>(q6 k e2.1).2 (r6 k e2.2 e1.1))
  have hdj:∀k,Zw' k->¬(Z' k/\k<w3.heap.size):=fun k e e2=>by
   have e3:=u6 k e2.2 e
   exact (q6 k e3.1).2 (r6 k e3.2 e2.1)
  obtain⟨Y',v1,v2,v3,v4⟩:=StM.step q3 q4 q5 q6 q8 q9 q10 hJ u1 (fun k hk e=>r6 k hk e.1) (fun k hk e=>(u6 k (by omega) e).1) hdj (fun k e=>by omega) u5 ((r8.mono (fun k _ e=>.inl e)).comp u7 (fun k _ e=>.inr e.1))
  exact⟨rfl,Y',a',ss',val',v1,u2,u3,u4,v2,v3,v4⟩
 clear q1 q2 q3 q4 hPO q5 q6 q8 q9 q10 hR hWq
 go_enter Tryz.func52,Tryz.ntmps52
 go_wp2_with fail
 refine Calls.mono HA.out ?_
 rintro e w1 ⟨rfl,b1⟩
 have HL1:=hid (HL.out w1 b1)
 have HP1:Hid (∀e w',RdH (fun k=>Z k/\k<w.heap.size) w1 j c p 16 nb K fr bl d s ((LofA a val y).getD (jread d s y)) e w'->RdH Z w j c p 16 nb K fr bl d s ((LofA a val y).getD (jread d s y)) e w'):=fun e w' q=>HP.out w1 e w' b1 q
 clear b1 HA HL HP
 go_wp2_with fail
 refine Calls.mono HL1.out ?_
 rintro e w3 q
 obtain⟨g3,cp3,rfl,_⟩:=id q
 have k3:=HC.out _ w3 (HP1.out _ w3 q)
 have HY1:=hid (HY.out _ w3 (HP1.out _ w3 q))
 clear q HL1 HP1 HC HY
 go_wp2_with fail
 refine Calls.mono HY1.out ?_
 rintro e w5 ⟨rfl,q⟩
 have FIN:=hid q
 clear q HY1
 go_wp2
 exact FIN.out
open Go.RowKit Go.Deep
theorem StM.cut{nb fr:Nat}{t x m n:Nat}{a:Nat->Option Wr}{ss:List Sp}{ms:List Mr}{val:Nat->List Int}(h:StM Y w j c p st nb K fr bl d s t x m n a ss ms val):StM (fun k=>Y k/\k<w.heap.size) w j c p st nb K fr bl d s t x m n a ss ms val:=by
 obtain⟨Z,Zw,sv,mv,q1,q2,q3,q4,q5,q6,q8,q9,q10⟩:=h
 exact⟨fun k=>Z k/\k<w.heap.size,fun k=>Zw k/\k<w.heap.size,sv,mv,q1.cut,q2.cut,q3,q4,fun k e=>⟨q5 k e.1,e.2⟩,fun k e=>⟨⟨(q6 k e.1).1,e.2⟩,fun e2=>(q6 k e.1).2 e2.1⟩,q8,⟨fun e=>q9.1 e.1,fun e=>q9.2.1 e.1,q9.2.2,q3.lt⟩,⟨fun e=>q10.1 e.1,fun e=>q10.2.1 e.1,q10.2.2,q4.lt⟩⟩
open Go.RowKit Go.Deep
theorem CmP.txb{room nb fr:Nat}{t:Nat}{e:Ending}(H:CmP Z Zw w j c p room nb K fr bl d s L t st e w')(hZt:¬Z t):Txb w' t j .nilIface st (.pointer none):=by
 obtain⟨w3,q1,_,_,q4⟩:=H
 rcases q4 with ⟨_,_,rfl⟩ | ⟨_,qs,_,_,k4⟩
 ·exact q1
 ·by_cases hc:appC nb fr bl d s qs=0
  ·obtain⟨_,_,r5⟩:=k4.1 hc
   exact q1.keep (r5.block t q1.lt (fun e=>hZt e.1))
  ·exact q1.keep ((k4.2 hc).2.block t q1.lt)
structure OT where
 t:Nat
 x:Nat
 m:Nat
 n:Nat
 a:Nat->Option Wr
 ss:List Sp
 ms:List Mr
 val:Nat->List Int
def StO (Y:Nat->Prop) (w:World) (j c p st nb K fr bl:Nat) (d:Pd) (s:Js):Option OT->Prop
 | none=>StA Y w j c p st nb K fr bl d s
 | some o=>StM Y w j c p st nb K fr bl d s o.t o.x o.m o.n o.a o.ss o.ms o.val
theorem StA.keep2{nb fr:Nat}(h:StA Y w j c p st nb K fr bl d s)(hb:But X w w')(hX:∀k,k<w.heap.size->X k->Y k->False):StA Y w' j c p st nb K fr bl d s:=by
 obtain⟨Z,h1,h2,h3,h4,h5⟩:=h
 exact⟨Z,h1.but hb (fun k hk e1 e2=>hX k hk e2 (h2 k e1)),h2,h3.keep (hb.block st h3.lt (fun e=>hX st h3.lt e h5)),h4,h5⟩
theorem StM.keep2{nb fr:Nat}{t x m n:Nat}{a:Nat->Option Wr}{ss:List Sp}{ms:List Mr}{val:Nat->List Int}(h:StM Y w j c p st nb K fr bl d s t x m n a ss ms val)(hb:But X w w')(hX:∀k,k<w.heap.size->X k->Y k->False):StM Y w' j c p st nb K fr bl d s t x m n a ss ms val:=by
 obtain⟨Z,Zw,sv,mv,q1,q2,q3,q4,q5,q6,q8,q9,q10⟩:=h
 exact⟨Z,Zw,sv,mv,q1.but hb (fun k hk e1 e2=>hX k hk e2 (q5 k e1)),q2.but hb (fun k hk e1 e2=>hX k hk e2 (q6 k e1).1),q3.keep (hb.block t q3.lt (fun e=>hX t q3.lt e q9.2.2)),q4.keep (hb.block st q4.lt (fun e=>hX st q4.lt e q10.2.2)),q5,q6,q8,q9,q10⟩
theorem StO.keep{nb fr:Nat}{o:Option OT}(h:StO Y w j c p st nb K fr bl d s o)(hb:But X w w')(hX:∀k,k<w.heap.size->X k->Y k->False):StO Y w' j c p st nb K fr bl d s o:=by
 cases o with
 | none=>exact StA.keep2 h hb hX
 | some o=>exact StM.keep2 h hb hX
theorem StO.below{nb fr:Nat}{o:Option OT}(h:StO Y w j c p st nb K fr bl d s o)(hb:Below w.heap.size w w'):StO Y w' j c p st nb K fr bl d s o:=h.keep (X:=fun _=>False) (But.of_below hb) (fun _ _ q _=>q)
theorem StO.jq{nb fr:Nat}{o:Option OT}(h:StO Y w j c p st nb K fr bl d s o):∃Z,Jq Z w j c p 16 nb K fr bl d s/\(∀k,Z k->Y k)/\Stb w st j (.pointer (o.map fun q=>⟨q.t,0,none⟩))/\¬Z st/\Y st:=by
 cases o with
 | none=>
  obtain⟨Z,h1,h2,h3,h4,h5⟩:=h
  exact⟨Z,h1,h2,h3,h4,h5⟩
 | some o=>
  obtain⟨Z,Zw,sv,mv,q1,q2,q3,q4,q5,q6,q8,q9,q10⟩:=h
  exact⟨Z,q1,q5,q4,q10.1,q10.2.2⟩
theorem StO.cut{nb fr:Nat}{o:Option OT}(h:StO Y w j c p st nb K fr bl d s o):StO (fun k=>Y k/\k<w.heap.size) w j c p st nb K fr bl d s o:=by
 cases o with
 | none=>
  obtain⟨Z,h1,h2,h3,h4,h5⟩:=h
  exact⟨fun k=>Z k/\k<w.heap.size,h1.cut,fun k q=>⟨h2 k q.1,q.2⟩,h3,fun q=>h4 q.1,h5,h3.lt⟩
 | some o=>exact StM.cut h
end Go.Proofs.YtlefjidbpjkhlaaGreat
