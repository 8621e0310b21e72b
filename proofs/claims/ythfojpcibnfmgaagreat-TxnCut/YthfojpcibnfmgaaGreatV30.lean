import Derived.Test.YthfojpcibnfmgaaGreatV29
import Derived.Test.YthfojpcibnfmgaaGreatV25
import Derived.Test.YthfojpcibnfmgaaGreatV02
import Derived.Test.YthfojpcibnfmgaaGreatV28
import Derived.Laws.Rows
import Derived.Test.YthfojpcibnfmgaaGreatV00
set_option maxRecDepth 100000
set_option maxHeartbeats 16000000
namespace Go.Proofs.YthfojpcibnfmgaaGreat
variable {Y Z Zw:Nat->Prop}
variable {w w' w2 w3:World}
variable {K b bl cp fr j lo m n nb p rb st t x:Nat}
variable {D:DataW (Nat×Nat×Int)}
variable {lv mv sv:Value}
variable {d:Pd}
variable {fu:Int}
variable {Ts:List Tn}
open Go.RowKit Go.Deep
theorem puts_rd{g N:Nat}{qs:List Pm}(hrow:w3.ownsRow w.heap.size 184 2 (.slice (some ⟨g,0,none⟩) N cp) N (pmCells qs))(hq:∀p∈qs,PutOf Zw w p)(hb:But Y w w3)(hY:∀k,k<w.heap.size->Zw k->¬Y k)(hZ:∀k,k<w.heap.size->Zw k->¬Z k)(hZg:¬Z g):RdP Z w3 (some ⟨g,0,none⟩) qs:=by
 refine⟨fun p hp=>?_,.inr ⟨g,0,rfl,(World.ownsRow.lt hrow g rfl).2,hZg,fun t p hp=>?_⟩⟩
 ·obtain⟨b,e1,e2,e3,e4,e5⟩:=hq p hp
  rw[e1,e5]
  exact (e3.keep (hb.block b e3.lt (hY b e3.lt e2))).rdn e4 (hZ b e3.lt e2)
 ·have hc:=World.ownsRow.cells hrow (g:=g) rfl
  obtain⟨r1,r2⟩:=pmCells_get qs t p hp
  have s1:=hc _ _ r1
  have s2:=hc _ _ r2
  rw[Addr.add_lit]at s1 s2
  exact⟨s1,s2⟩
def CmP (Z Zw:Nat->Prop) (w:World) (j c p room nb K fr bl:Nat) (d:Pd) (s:Js) (L:Nat->Option (List Int)) (t st:Nat) (e:Ending) (w':World):Prop :=
 ∃w3,Txb w3 t j .nilIface st (.pointer none)/\Stb w3 st j (.pointer none)/\But (fun k=>k=st\/k=t) w w3 /\
  ((homeKeys nb L=[]/\e=.returned (.int .i64 0)/\w'=w3)\/(homeKeys nb L≠[]/\∃qs,qs.map Pm.say=(homeKeys nb L).map (fun (y:Nat)=>((y:Int),(L y).getD []))/\(∀p∈qs,PutOf Zw w p)/\AppP (fun k=>Z k/\k<w.heap.size) w3 j c p room nb K fr bl d s qs e w'))
theorem commit_any{c room:Nat}{a:Nat->Option (Nat×Nat×Int)}{L:Nat->Option (List Int)}{s:Js}(h:Jq Z w j c p room nb K fr bl d s)(hj:Jn nb fr bl s)(hW:Wq Zw w x j m n nb fr bl D a sv mv L)(hZ:∀k,k<w.heap.size->Zw k->¬Z k)(hon:d.off=false)(hl:d.puts.length+nb+bl+bl+16<=1073741823)(hnb:nb<=524288)(ht:Txb w t j (.iface 122 (.pointer (some ⟨x,0,none⟩))) st (.pointer (some ⟨x,0,none⟩)))(hs:Stb w st j (.pointer (some ⟨t,0,none⟩)))(hne:st≠t)(hZt:¬Z t)(hZs:¬Z st)(hwt:¬Zw t)(hws:¬Zw st) :
  Calls Tryz.prog 34 #[.pointer (some ⟨t,0,none⟩)] w (CmP Z Zw w j c p room nb K fr bl d s L t st):=by
 obtain⟨PO,hPO⟩:∃PO:Ending->World->Prop,PO=CmP Z Zw w j c p room nb K fr bl d s L t st:=⟨_,rfl⟩
 rw[<- hPO]
 have HA:=hid (task_open h hon ht hs)
 have HT:Hid (∀w1,Below w.heap.size w w1->w1.cell? ⟨t,3,none⟩=some (.pointer (some ⟨x,0,none⟩))):=fun w1 b=>(b.cell (p:=⟨t,3,none⟩) ht.lt).trans (ht.cell 3)
 have HPu:Hid (∀w1,Below w.heap.size w w1->Calls Tryz.prog 68 #[.pointer (some ⟨x,0,none⟩)] w1 fun e w'=>∃g cp qs,e=.returned (.slice (some ⟨g,0,none⟩) (homeKeys nb L).length cp)/\w1.heap.size<=g/\g<w'.heap.size/\qs.map Pm.say=(homeKeys nb L).map (fun (y:Nat)=>((y:Int),(L y).getD []))/\w'.ownsRow w1.heap.size 184 2 (.slice (some ⟨g,0,none⟩) (homeKeys nb L).length cp) (homeKeys nb L).length (pmCells qs)/\(∀p∈qs,PutOf (fun k=>Zw k/\k<w.heap.size) w1 p)/\Below w1.heap.size w1 w'):=fun w1 b=>by
  refine puts_any (sv:=sv) (mv:=mv) (x:=x) (j:=j) (m:=m) (n:=n) (nb:=nb) (fr:=fr) (bl:=bl) (D:=D) (a:=a) (L:=L) ?_ hnb
  exact⟨(hW.keep (w':=w1) (fun k _ hk=>b.block k hk)).blk,(hW.keep (w':=w1) (fun k _ hk=>b.block k hk)).mp,hW.am,fun y g cp k e=>by
   obtain⟨zs,q1,q2,q3,q4,q5⟩:=hW.dat y g cp k e
   exact⟨zs,q1,q2.keep (b.block g q2.lt),q3,q4,q5,q2.lt⟩,hW.non,⟨hW.zx,hW.lt⟩,⟨hW.zm,hW.mp.lt⟩⟩
 have HE:Hid (∀w2,Below w.heap.size w w2->Calls Tryz.prog 69 #[.pointer (some ⟨t,0,none⟩)] w2 fun e w'=>e=.returned (.tuple #[])/\Txb w' t j .nilIface st (.pointer none)/\Stb w' st j (.pointer none)/\But (fun k=>k=st\/k=t) w2 w'):=fun w2 b=>end_any (ht.keep (b.block t ht.lt)) (hs.keep (b.block st hs.lt)) hne
 have HF0:Hid (∀w3,Txb w3 t j .nilIface st (.pointer none)->Stb w3 st j (.pointer none)->But (fun k=>k=st\/k=t) w w3->homeKeys nb L=[]->PO (.returned (.int .i64 0)) w3):=fun w3 q1 q2 q3 q4=>by
  rw[hPO];exact⟨w3,q1,q2,q3,.inl ⟨q4,rfl,rfl⟩⟩
 have HF1:Hid (∀w1 w2 w3 g cp qs,Below w.heap.size w w1->Below w1.heap.size w1 w2->But (fun k=>k=st\/k=t) w2 w3->Txb w3 t j .nilIface st (.pointer none)->Stb w3 st j (.pointer none)->w1.heap.size<=g->w2.ownsRow w1.heap.size 184 2 (.slice (some ⟨g,0,none⟩) (homeKeys nb L).length cp) (homeKeys nb L).length (pmCells qs)->qs.map Pm.say=(homeKeys nb L).map (fun (y:Nat)=>((y:Int),(L y).getD []))->(∀p∈qs,PutOf (fun k=>Zw k/\k<w.heap.size) w1 p)->homeKeys nb L≠[]->Calls Tryz.prog 70 #[.pointer (some ⟨j,0,none⟩),.slice (some ⟨g,0,none⟩) (homeKeys nb L).length cp] w3 fun e w'=>(∃code,e=.returned (.int .i64 code))/\PO e w'):=fun w1 w2 w3 g cp qs b1 b2 b3 q1 q2 q3 q4 q5 q6 q7=>by
  have s1:=b1.size
  have s2:=b2.size
  have stl:=hs.lt
  have ttl:=ht.lt
  have q6':∀p∈qs,PutOf Zw w p:=fun p hp=>by
   obtain⟨b,e1,e2,e3,e4,e5⟩:=q6 p hp
   exact⟨b,e1,e2.1,e3.keep (b1.block b e2.2).symm,e4,e5⟩
  have q4':w3.ownsRow w1.heap.size 184 2 (.slice (some ⟨g,0,none⟩) (homeKeys nb L).length cp) (homeKeys nb L).length (pmCells qs):=owns_keep q4 (fun k e=>b3.block k (World.ownsRow.lt q4 k e).2 (fun e2=>by
   have:=(World.ownsRow.lt q4 k e).1
   rcases e2 with e2 | e2 <;> omega))
  have bb:But (fun k=>k=st\/k=t) w w3:=(But.of_below (b1.trans (b2.mono s1)) (X:=fun k=>k=st\/k=t)).comp b3 (fun _ _ q=>q)
  have bb1:But (fun k=>k=st\/k=t) w1 w3:=(But.of_below b2 (X:=fun k=>k=st\/k=t)).comp b3 (fun _ _ q=>q)
  have hlen:qs.length=(homeKeys nb L).length:=by
   have:=congrArg List.length q5
   simpa using this
  have hkl:=length_homeKeys nb L
  have hrd:RdP (fun k=>Z k/\k<w.heap.size) w3 (some ⟨g,0,none⟩) qs:=puts_rd (w:=w1) q4' q6 bb1 (fun k hk e e2=>e2.elim (fun q=>hws (q ▸ e.1)) (fun q=>hwt (q ▸ e.1))) (fun k hk e e2=>hZ k e.2 e.1 e2.1) (fun e=>by omega)
  have hA:=Append_on (h.cut.but bb (fun k hk e e2=>e2.elim (fun q=>hZs (q ▸ e.1)) (fun q=>hZt (q ▸ e.1)))) hj hon (some ⟨g,0,none⟩) cp qs hrd (by omega) hl
  rw[hlen]at hA
  refine Calls.mono hA ?_
  intro e w' r
  refine⟨?_,?_⟩
  ·by_cases hc:appC nb fr bl d s qs=0
   ·exact⟨_,(r.1 hc).1⟩
   ·exact⟨_,(r.2 hc).1⟩
  rw[hPO]
  exact⟨w3,q1,q2,bb,.inr ⟨q7,qs,q5,q6',r⟩⟩
 clear h hj hW hZ hs ht hPO hZt hZs hwt hws
 go_enter Tryz.func34,Tryz.ntmps34
 go_wp2_with fail
 refine Calls.mono HA.out ?_
 rintro e w1 ⟨rfl,b1⟩
 have B1:=hid b1
 have k3:=HT.out w1 b1
 have HP1:=hid (HPu.out w1 b1)
 clear b1 HA HT HPu
 go_wp2_with fail
 refine Calls.mono HP1.out ?_
 rintro e w2 ⟨g,cp,qs,rfl,hg,hgl,hq,hrow,hqs,b2⟩
 have B2:=hid b2
 have HE2:=hid (HE.out w2 (B1.out.trans (b2.mono B1.out.size)))
 have HQ:=hid (And.intro hg (And.intro hq (And.intro hrow hqs)))
 clear HP1 HE hg hgl hq hrow hqs b2 k3
 go_wp2_with fail
 refine Calls.mono HE2.out ?_
 rintro e w3 ⟨rfl,ht3,hs3,b3⟩
 have k0:=ht3.cell 0
 simp at k0
 have hkl:=length_homeKeys nb L
 by_cases hk:homeKeys nb L=[]
 ·have FIN:=hid (HF0.out w3 ht3 hs3 ((But.of_below (B1.out.trans (B2.out.mono B1.out.size)) (X:=fun k=>k=st\/k=t)).comp b3 (fun _ _ q=>q)) hk)
  have hN:(homeKeys nb L).length=0:=by rw[hk];rfl
  clear HF0 HF1 HQ b3 HE2 ht3 hs3 B1 B2 hk
  generalize (homeKeys nb L).length=N at *
  subst hN
  go_wp2
  exact FIN.out
 ·have HC:=hid (HF1.out w1 w2 w3 g cp qs B1.out B2.out b3 ht3 hs3 HQ.out.1 HQ.out.2.2.1 HQ.out.2.1 HQ.out.2.2.2 hk)
  have hN:0<(homeKeys nb L).length:=List.length_pos_iff.2 hk
  clear HF0 HF1 HQ b3 HE2 ht3 hs3 B1 B2 hk
  generalize (homeKeys nb L).length=N at *
  have hN':¬(N:Int)=0:=by omega
  go_wp2_with fail
  refine Calls.mono HC.out ?_
  rintro e w4 ⟨⟨code,rfl⟩,r⟩
  have FIN:=hid r
  clear r HC
  go_wp2
  exact FIN.out
open Go.RowKit Go.Deep
theorem isB_zeros'(n:Nat):Pl.isB (zeros n):=fun z hz=>by
 have:=List.eq_of_mem_replicate hz
 omega
theorem dnew_any(nb:Nat)(lo:1<=nb)(hi:nb<=524288)(w:World) :
  Calls Tryz.prog 71 #[.int .i64 (nb:Int)] w fun e w'=>∃p,e=.returned (.tuple #[.pointer (some ⟨p,0,none⟩),.int .i64 0])/\w.heap.size<=p/\Dk (fun x=>w.heap.size<=x) w' p (zeros (512 * nb)) [] (-1) false nb/\Below w.heap.size w w':=by
 obtain⟨PO,hPO⟩:∃PO:Ending->World->Prop,PO=fun e w'=>∃p,e=.returned (.tuple #[.pointer (some ⟨p,0,none⟩),.int .i64 0])/\w.heap.size<=p/\Dk (fun x=>w.heap.size<=x) w' p (zeros (512 * nb)) [] (-1) false nb/\Below w.heap.size w w':=⟨_,rfl⟩
 rw[<- hPO]
 have hmk:(Instr.makeSlice 40 (.int .i64 ((nb:Int) * 512)) (.int .i64 ((nb:Int) * 512))).run Tryz.prog w=.ok (.slice (some ⟨w.heap.size,0,none⟩) (512 * nb) (512 * nb)) (w.alloc (.cells ((zeros (512 * nb)).map (Value.int .u8)).toArray 5)):=by
  have:=make_u8 (512 * nb) (by omega) w
  rw[show ((512 * nb:Nat):Int)=(nb:Int) * 512 by omega]at this
  exact this
 have HD:Hid (Calls Tryz.prog 92 #[.slice (some ⟨w.heap.size,0,none⟩) (512 * nb) (512 * nb)] (w.alloc (.cells ((zeros (512 * nb)).map (Value.int .u8)).toArray 5)) fun e w'=>∃p,e=.returned (.pointer (some ⟨p,0,none⟩))/\PO (.returned (.tuple #[.pointer (some ⟨p,0,none⟩),.int .i64 0])) w'):=by
  have ho:Own (w.alloc (.cells ((zeros (512 * nb)).map (Value.int .u8)).toArray 5)) w.heap.size (512 * nb) (512 * nb) (zeros (512 * nb)):=Own.of_blk (Array.getElem?_push_size) (by simp[zeros]) (by unfold maxLen;omega)
  refine Calls.mono (diskOf_any ho (isB_zeros' _) lo hi) ?_
  rintro e w' ⟨p,rfl,h1,h2,h3⟩
  refine⟨p,rfl,?_⟩
  rw[hPO]
  have s1:(w.alloc (.cells ((zeros (512 * nb)).map (Value.int .u8)).toArray 5)).heap.size=w.heap.size+1:=by simp
  exact⟨p,rfl,by omega,h2.mono (fun k q=>by rcases q with q | q <;> omega),((Below.refl w.heap.size w).alloc (Nat.le_refl _) _).trans (h3.mono (by omega))⟩
 have hn1:¬(nb:Int)<1:=by omega
 have hn2:¬(524288:Int)<(nb:Int):=by omega
 clear hPO
 go_enter Tryz.func71,Tryz.ntmps71
 go_wp2_with fail
 refine Calls.mono HD.out ?_
 rintro e w1 ⟨p,rfl,q⟩
 have FIN:=hid q
 clear q HD
 go_wp2
 exact FIN.out
theorem topen_any{c room:Nat}{s:Js}(h:Jq Z w j c p room nb K fr bl d s)(hon:d.off=false) :
  Calls Tryz.prog 10 #[.pointer (some ⟨j,0,none⟩)] w fun e w'=>∃st,e=.returned (.tuple #[.pointer (some ⟨st,0,none⟩),.int .i64 0])/\w.heap.size<=st/\Stb w' st j (.pointer none)/\Below w.heap.size w w':=by
 obtain⟨PO,hPO⟩:∃PO:Ending->World->Prop,PO=fun e w'=>∃st,e=.returned (.tuple #[.pointer (some ⟨st,0,none⟩),.int .i64 0])/\w.heap.size<=st/\Stb w' st j (.pointer none)/\Below w.heap.size w w':=⟨_,rfl⟩
 rw[<- hPO]
 obtain⟨w1,hw1⟩:∃w1,w1=w.alloc (.cells #[.pointer (some ⟨j,0,none⟩),.iface 76 (.pointer (some ⟨j,0,none⟩)),.pointer none] 83):=⟨_,rfl⟩
 have b1:Below w.heap.size w w1:=by rw[hw1];exact (Below.refl _ _).alloc (Nat.le_refl _) _
 have s1:Stb w1 w.heap.size j (.pointer none):=by rw[hw1];exact Array.getElem?_push_size
 have HA:Hid (Calls Tryz.prog 25 #[.pointer (some ⟨w.heap.size,0,none⟩)] w1 fun e w'=>e=.returned (.int .i64 0)/\PO (.returned (.tuple #[.pointer (some ⟨w.heap.size,0,none⟩),.int .i64 0])) w'):=by
  have hA:=sask_any (h.below b1) s1
  rw[hon]at hA
  refine Calls.mono hA ?_
  rintro e w' ⟨rfl,b2⟩
  refine⟨rfl,?_⟩
  rw[hPO]
  exact⟨w.heap.size,rfl,Nat.le_refl _,s1.keep (b2.block _ s1.lt),b1.trans (b2.mono b1.size)⟩
 have HW:Hid (w1=w.alloc (.cells #[.pointer (some ⟨j,0,none⟩),.iface 76 (.pointer (some ⟨j,0,none⟩)),.pointer none] 83)):=hw1
 clear h hPO b1 s1 hw1
 go_enter Tryz.func10,Tryz.ntmps10
 go_wp2_with fail
 rw[<- HW.out]
 refine Calls.mono HA.out ?_
 rintro e w2 ⟨rfl,q⟩
 have FIN:=hid q
 clear q HA HW
 go_wp2
 exact FIN.out
open Go.RowKit
theorem Cq.new{B c room:Nat}{I:List Int}(hD:Dk (fun x=>B<=x) w2 p I [] fu false nb)(hC:Cst (fun k=>w2.heap.size<=k) w3 c p room 0 0 [])(hb:Below w2.heap.size w2 w3)(hB:B<=w2.heap.size):Cq (fun k=>B<=k/\k<w3.heap.size) w3 c p room nb 0 ⟨I,[],fu,false⟩:=by
 refine⟨fun k=>B<=k/\k<w2.heap.size,fun k=>w2.heap.size<=k/\k<w3.heap.size,0,0,[],⟨hC.cut,hD.cut.keep (fun k _ hk=>hb.block k hk),fun k q q'=>by omega⟩,fun k q=>⟨q.1,Nat.lt_of_lt_of_le q.2 hb.size⟩,fun k q=>⟨by omega,q.2⟩,fun k q=>q.2,Good.nil _ _ _,⟨by omega,by omega⟩,⟨by omega,by omega⟩⟩
theorem OpenP.anew{c room f:Nat}{s:Js}{home:Nat->List Int}{e:Ending}(H:OpenP Z w c p room nb K d (f:Int) (b:Int) e w')(h:On d s nb f b lo home Ts)(hfu:d.fu=-1)(hf:d.Fits nb)(hlo:16<=b)(hfit:f+b<=nb)(hnb:nb<=524288) :
  But Z w w'/\∃j Z' d' s',e=.returned (.tuple #[.pointer (some ⟨j,0,none⟩),.int .i64 0])/\w.heap.size<=j/\Gr Z Z' w/\d'.fu=-1/\Jq Z' w' j c p room nb K f b d' s'/\On d' s' nb f b Ts.length home Ts:=by
 have hset:=h.settle hf hlo hfit hnb
 obtain⟨q,base,ts,k,hn⟩:=h.nm
 obtain⟨h1,h2,h3⟩:=hn.again hnb hfit
 obtain⟨b1,jv,code,rfl,kk⟩:=H
 have hlc:layC d nb (f:Int) (b:Int)=0:=by
  unfold layC
  rw[h.on,if_neg (by simp)]
  exact placeC_ok hlo hfit hnb
 refine⟨b1,?_⟩
 rcases kk with ⟨k1,_⟩ | ⟨_,f',b',ef,eb,_,_,kk⟩
 ·exact absurd hlc k1
 ·have ef':f'=f:=by omega
  have eb':b'=b:=by omega
  subst ef' eb'
  rcases kk with ⟨_,_,k | ⟨l',q',k1,k2⟩,_⟩ | ⟨l',q',k1,k2,k3,Z',k4,k5⟩
  ·rw[h1]at k;cases k
  ·rw[h1]at k1
   cases k1
   rw[h2]at k2
   exact absurd h3 k2
  ·rw[h1]at k1
   cases k1
   rw[h2]at k3 k5
   obtain⟨f1,_,f3⟩:=Pd.runs_free h.on hfu (settleCmds nb f' b' s)
   rcases k5 with ⟨k6,_⟩ | ⟨k6,j,k7,k8,k9⟩
   ·exact absurd (k3.trans f1) k6
   ·subst k6 k7
    exact⟨j,Z',_,_,rfl,k8,k4,f3,k9,(hset.1 f1).1⟩
open Go.RowKit Go.Deep
theorem right_any(a b c:Int)(w:World):Calls Tryz.prog 16 #[.agg #[.int .i64 a,.int .i64 b,.int .i64 c]] w fun e w'=>e=.returned (.agg #[.int .i64 (into 10 a:Int),.int .i64 (16+(into 16 b:Int)),.int .i64 (1+(into 9 c:Int))])/\Below w.heap.size w w':=by
 have e1:(bits .and .i64 a 4611686018427387903).tmod 10=(into 10 a:Int):=into_eq 10 a
 have e2:(bits .and .i64 b 4611686018427387903).tmod 16=(into 16 b:Int):=into_eq 16 b
 have e3:(bits .and .i64 c 4611686018427387903).tmod 9=(into 9 c:Int):=into_eq 9 c
 have l1:=into_lt a (show 0<10 by decide)
 have l2:=into_lt b (show 0<16 by decide)
 have l3:=into_lt c (show 0<9 by decide)
 have p1:=and62_pos a
 have p2:=and62_pos b
 have p3:=and62_pos c
 go_enter Tryz.func16,Tryz.ntmps16
 go_wp2
 (try simp only[Exit.inBlock,Exit.then])
 refine bodyPost_ret (results_cell_row rfl _ _ (w.heap.size+1) 23 #[.int .i64 (into 10 a:Int),.int .i64 (16+(into 16 b:Int)),.int .i64 (1+(into 9 c:Int))] (0,0) _ rfl (heap_alloc2_new _ _ _) Tryz.underlying23 rfl (by kernel_rfl)) rfl ?_
 exact⟨rfl,((Below.refl w.heap.size w).alloc (Nat.le_refl _) _).alloc (by simp) _⟩
theorem Cq.new'{c room:Nat}(hD:Dk Z w2 p d.img d.puts d.fu d.off nb)(hC:Cst (fun k=>w2.heap.size<=k) w3 c p room 0 0 [])(hb:Below w2.heap.size w2 w3):Cq (fun k=>(Z k\/w2.heap.size<=k)/\k<w3.heap.size) w3 c p room nb 0 d:=by
 refine⟨fun k=>Z k/\k<w2.heap.size,fun k=>w2.heap.size<=k/\k<w3.heap.size,0,0,[],⟨hC.cut,hD.cut.keep (fun k _ hk=>hb.block k hk),fun k q q'=>by omega⟩,fun k q=>⟨.inl q.1,Nat.lt_of_lt_of_le q.2 hb.size⟩,fun k q=>⟨.inr q.1,q.2⟩,fun k q=>q.2,Good.nil _ _ _,⟨by omega,by omega⟩,⟨by omega,by omega⟩⟩
theorem laid_any(fr bl re nb:Nat)(hnbe:nb=fr+bl+re)(hlo:16<=bl)(hnb:nb<=524288)(w:World) :
  Calls Tryz.prog 36 #[.agg #[.int .i64 (fr:Int),.int .i64 (bl:Int),.int .i64 (re:Int)]] w fun e w'=>∃p d,e=.returned (.tuple #[.pointer (some ⟨p,0,none⟩),.bool true])/\(∃Z,Dk Z w' p d.img d.puts d.fu d.off nb/\∀k,Z k->w.heap.size<=k/\k<w'.heap.size)/\d.Fits nb/\d.fu=-1/\On d (beginS noS) nb fr bl 0 (⟨zeros (512 * nb),[],-1,false⟩:Pd).read []/\Below w.heap.size w w':=by
 obtain⟨PO,hPO⟩:∃PO:Ending->World->Prop,PO=fun e w'=>∃p d,e=.returned (.tuple #[.pointer (some ⟨p,0,none⟩),.bool true])/\(∃Z,Dk Z w' p d.img d.puts d.fu d.off nb/\∀k,Z k->w.heap.size<=k/\k<w'.heap.size)/\d.Fits nb/\d.fu=-1/\On d (beginS noS) nb fr bl 0 (⟨zeros (512 * nb),[],-1,false⟩:Pd).read []/\Below w.heap.size w w':=⟨_,rfl⟩
 rw[<- hPO]
 obtain⟨w0,hw0⟩:∃w0,w0=w.alloc (.cells #[.int .i64 (fr:Int),.int .i64 (bl:Int),.int .i64 (re:Int)] 23):=⟨_,rfl⟩
 have b0:Below w.heap.size w w0:=by rw[hw0];exact (Below.refl _ _).alloc (Nat.le_refl _) _
 have z0:w0.heap.size=w.heap.size+1:=by rw[hw0];simp
 have hblk:w0.heap[w.heap.size]?=some (.cells #[.int .i64 (fr:Int),.int .i64 (bl:Int),.int .i64 (re:Int)] 23 (0,0)):=by rw[hw0];exact Array.getElem?_push_size
 have HC:Hid (∀w',Below w0.heap.size w0 w'->w'.cell? ⟨w.heap.size,0,none⟩=some (.int .i64 (fr:Int))/\w'.cell? ⟨w.heap.size,1,none⟩=some (.int .i64 (bl:Int))/\w'.cell? ⟨w.heap.size,2,none⟩=some (.int .i64 (re:Int))):=fun w' b=>by
  have hb:=(b.block w.heap.size (by omega)).trans hblk
  exact⟨by simp[World.cell?,hb],by simp[World.cell?,hb],by simp[World.cell?,hb]⟩
 have c0:=HC.out w0 (Below.refl _ _)
 obtain⟨c00,c01,c02⟩:=c0
 have HN:=hid (dnew_any nb (by omega) hnb w0)
 rw[show ((nb:Nat):Int)=(fr:Int)+(bl:Int)+(re:Int) by omega]at HN
 have HW:Hid (w.alloc (.cells #[.int .i64 (fr:Int),.int .i64 (bl:Int),.int .i64 (re:Int)] 23)=w0):=hw0.symm
 have HF:Hid (∀w1 w2 p c,Below w0.heap.size w0 w1->Dk (fun x=>w0.heap.size<=x) w1 p (zeros (512 * nb)) [] (-1) false nb->Below w1.heap.size w1 w2->Cst (fun k=>w1.heap.size<=k) w2 c p 4 0 0 []->Calls Tryz.prog 73 #[.pointer (some ⟨c,0,none⟩),.int .i64 (fr:Int),.int .i64 (bl:Int)] w2 fun e w'=>e=.returned (.int .i64 0)/\PO (.returned (.tuple #[.pointer (some ⟨p,0,none⟩),.bool true])) w'):=fun w1 w2 p c b1 hD b2 hCs=>by
  have s1:=b1.size
  have s2:=b2.size
  have hq:=Cq.new hD hCs b2 s1
  have hft:=hq.fits
  have hfit:fr+bl<=nb:=by omega
  refine Calls.mono (Format_any hq (fr:Int) (bl:Int) (by simp only[List.length_nil];omega)) ?_
  rintro e w4 ⟨code,d',rfl,⟨Z',q1,q2⟩,b4,hcase⟩
  have hlc:layC ⟨zeros (512 * nb),[],-1,false⟩ nb (fr:Int) (bl:Int)=0:=by
   unfold layC
   rw[if_neg (by simp)]
   exact placeC_ok hlo hfit hnb
  rcases hcase with ⟨k1,_⟩ | ⟨_,f',b',ef,eb,_,_,hrun⟩
  ·exact absurd hlc k1
  ·have ef':f'=fr:=by omega
   have eb':b'=bl:=by omega
   subst ef' eb'
   obtain⟨f1,_,f3⟩:=Pd.runs_free (d:=⟨zeros (512 * nb),[],-1,false⟩) rfl rfl (formatCmds f' b')
   have hon:=format_on hlo hfit hft.1 rfl f1
   rw[hrun]at f1 f3 hon
   simp only at f1 f3 hon
   subst f1
   refine⟨rfl,?_⟩
   rw[hPO]
   have B2:Below w.heap.size w w2:=b0.trans ((b1.trans (b2.mono s1)).mono (by omega))
   refine⟨p,d',rfl,⟨_,q1.dk.cut,fun k q=>⟨?_,q.2⟩⟩,q1.fits.1,f3,hon,((But.of_below B2 (X:=fun k=>w.heap.size<=k)).comp b4 (fun k hk q=>by omega)).below (Nat.le_refl _) (fun k hk q=>by omega)⟩
   rcases Nat.lt_or_ge k w.heap.size with hk | hk
   ·have:=(q2 k (by omega) q.1).1
    omega
   ·exact hk
 clear hPO hw0 b0 hblk
 go_enter Tryz.func36,Tryz.ntmps36
 go_wp2_with fail
 rw[HW.out]
 go_wp2_with fail
 refine Calls.mono HN.out ?_
 rintro e w1 ⟨p,rfl,hp,hD,b1⟩
 have HF1:Hid (∀w2 c,Below w1.heap.size w1 w2->Cst (fun k=>w1.heap.size<=k) w2 c p 4 0 0 []->Calls Tryz.prog 73 #[.pointer (some ⟨c,0,none⟩),.int .i64 (fr:Int),.int .i64 (bl:Int)] w2 fun e w'=>e=.returned (.int .i64 0)/\PO (.returned (.tuple #[.pointer (some ⟨p,0,none⟩),.bool true])) w'):=fun w2 c b2 hCs=>HF.out w1 w2 p c b1 hD b2 hCs
 have HC1:Hid (∀w',Below w1.heap.size w1 w'->w'.cell? ⟨w.heap.size,0,none⟩=some (.int .i64 (fr:Int))/\w'.cell? ⟨w.heap.size,1,none⟩=some (.int .i64 (bl:Int))):=fun w' b=>by
  obtain⟨r1,r2,_⟩:=HC.out w' (b1.trans (b.mono b1.size))
  exact⟨r1,r2⟩
 clear HN HF HC hD b1 hp c00 c01 c02 HW
 go_wp2_with fail
 refine Calls.mono (CNew_ok (w:=w1) p 4 (by omega) (by omega)) ?_
 rintro e w2 ⟨c,rfl,hc,hCs,b2⟩
 have HF2:=hid (HF1.out w2 c b2 hCs)
 obtain⟨d0,d1⟩:=HC1.out w2 b2
 clear HF1 HC1 hc hCs b2
 go_wp2_with fail
 refine Calls.mono HF2.out ?_
 rintro e w3 ⟨rfl,q⟩
 have FIN:=hid q
 clear q HF2
 go_wp2
 exact FIN.out
open Go.RowKit Go.Deep
def StP (Z:Nat->Prop) (w:World) (p nb fr bl:Nat) (home:Nat->List Int) (Ts:List Tn) (e:Ending) (w':World):Prop :=
 ∃st j c Z' d' s',e=.returned (.tuple #[.pointer (some ⟨st,0,none⟩),.int .i64 0])/\w.heap.size<=st/\Jq Z' w' j c p 4 nb 0 fr bl d' s'/\d'.fu=-1/\On d' s' nb fr bl Ts.length home Ts/\Stb w' st j (.pointer none)/\¬Z' st/\(∀k,Z' k->(Z k\/w.heap.size<=k)/\k<w'.heap.size)/\But Z w w'
theorem stands_any{s:Js}{home:Nat->List Int}(hD:Dk Z w p d.img d.puts d.fu d.off nb)(hon:On d s nb fr bl lo home Ts)(hfu:d.fu=-1)(hf:d.Fits nb)(hlo:16<=bl)(hfit:fr+bl<=nb)(hnb:nb<=524288)(re:Int) :
  Calls Tryz.prog 37 #[.pointer (some ⟨p,0,none⟩),.agg #[.int .i64 (fr:Int),.int .i64 (bl:Int),.int .i64 re]] w (StP Z w p nb fr bl home Ts):=by
 obtain⟨PO,hPO⟩:∃PO:Ending->World->Prop,PO=StP Z w p nb fr bl home Ts:=⟨_,rfl⟩
 rw[<- hPO]
 obtain⟨w0,hw0⟩:∃w0,w0=w.alloc (.cells #[.int .i64 (fr:Int),.int .i64 (bl:Int),.int .i64 re] 23):=⟨_,rfl⟩
 have b0:Below w.heap.size w w0:=by rw[hw0];exact (Below.refl _ _).alloc (Nat.le_refl _) _
 have z0:w0.heap.size=w.heap.size+1:=by rw[hw0];simp
 have hblk:w0.heap[w.heap.size]?=some (.cells #[.int .i64 (fr:Int),.int .i64 (bl:Int),.int .i64 re] 23 (0,0)):=by rw[hw0];exact Array.getElem?_push_size
 have HC:Hid (∀w',Below w0.heap.size w0 w'->w'.cell? ⟨w.heap.size,0,none⟩=some (.int .i64 (fr:Int))/\w'.cell? ⟨w.heap.size,1,none⟩=some (.int .i64 (bl:Int))):=fun w' b=>by
  have hb:=(b.block w.heap.size (by omega)).trans hblk
  exact⟨by simp[World.cell?,hb],by simp[World.cell?,hb]⟩
 have HW:Hid (w.alloc (.cells #[.int .i64 (fr:Int),.int .i64 (bl:Int),.int .i64 re] 23)=w0):=hw0.symm
 have HF:Hid (∀w1 c,Below w0.heap.size w0 w1->Cst (fun k=>w0.heap.size<=k) w1 c p 4 0 0 []->Calls Tryz.prog 74 #[.pointer (some ⟨c,0,none⟩),.int .i64 (fr:Int),.int .i64 (bl:Int)] w1 fun e w2=>∃j,e=.returned (.tuple #[.pointer (some ⟨j,0,none⟩),.int .i64 0])/\Calls Tryz.prog 10 #[.pointer (some ⟨j,0,none⟩)] w2 fun e w'=>∃st,e=.returned (.tuple #[.pointer (some ⟨st,0,none⟩),.int .i64 0])/\PO e w'):=fun w1 c b1 hCs=>by
  have s1:=b1.size
  have hD0:Dk (fun k=>Z k/\k<w.heap.size) w0 p d.img d.puts d.fu d.off nb:=hD.cut.keep (fun k q hk=>b0.block k q.2)
  have hq:=Cq.new' hD0 hCs b1
  have hpl:=hon.puts hlo hfit hnb
  refine Calls.mono (Open_any hq (fr:Int) (bl:Int) (by omega)) ?_
  intro e w2 hO
  obtain⟨b2,j,Z2,d2,s2,rfl,hj2,g2,fu2,J2,on2⟩:=OpenP.anew hO hon hfu hf hlo hfit hnb
  have q2:=b2.size
  refine⟨j,rfl,?_⟩
  refine Calls.mono (topen_any J2.cut on2.on) ?_
  rintro e w3 ⟨st,rfl,h1,h2,h3⟩
  refine⟨st,rfl,?_⟩
  rw[hPO]
  have q3:=h3.size
  have B1:Below w.heap.size w w1:=b0.trans (b1.mono (by omega))
  have bb:But Z w w2:=(But.of_below B1 (X:=Z)).comp b2 (fun k hk q=>by
   rcases q.1 with q | q
   ·exact q.1
   ·omega)
  refine⟨st,j,c,fun k=>Z2 k/\k<w2.heap.size,d2,s2,rfl,by omega,J2.cut.below h3,fu2,on2,h2,(fun e=>by omega),fun k q=>⟨?_,by omega⟩,bb.comp (But.of_below h3 (X:=fun _=>False)) (fun _ _ q=>q.elim)⟩
  rcases Nat.lt_or_ge k w.heap.size with hk | hk
  ·have:=(g2 k (by omega) q.1).1
   rcases this with r | r
   ·exact .inl r.1
   ·omega
  ·exact .inr hk
 clear hPO hw0 b0 hblk hD hon hfu hf
 go_enter Tryz.func37,Tryz.ntmps37
 go_wp2_with fail
 rw[HW.out]
 refine Calls.mono (CNew_ok (w:=w0) p 4 (by omega) (by omega)) ?_
 rintro e w1 ⟨c,rfl,hc,hCs,b1⟩
 have HF1:=hid (HF.out w1 c b1 hCs)
 obtain⟨d0,d1⟩:=HC.out w1 b1
 clear HF HC hc hCs b1 HW
 go_wp2_with fail
 refine Calls.mono HF1.out ?_
 rintro e w2 ⟨j,rfl,hT⟩
 have HT:=hid hT
 clear hT HF1
 go_wp2_with fail
 refine Calls.mono HT.out ?_
 rintro e w3 ⟨st,rfl,q⟩
 have FIN:=hid q
 clear q HT
 go_wp2
 exact FIN.out
open Go.RowKit Go.Deep
theorem info9:(Tryz.prog.info? 9).map (fun i=>(i.zero,i.size,i.bytes))=some (some (.string ByteArray.empty),1,16):=by kernel_rfl
def R5b (w:World) (rb nb fr bl:Nat) (lv:Value):Prop:=w.heap[rb]?=some (.cells #[.int .i64 (nb:Int),.int .i64 (fr:Int),.int .i64 (bl:Int),lv,.slice none 0 0,.int .i64 0,.pointer none,.bool false] 67 (0,0))
theorem R5b.cell(h:R5b w rb nb fr bl lv)(i:Nat):w.cell? ⟨rb,i,none⟩=#[.int .i64 (nb:Int),.int .i64 (fr:Int),.int .i64 (bl:Int),lv,.slice none 0 0,.int .i64 0,.pointer none,.bool false][i]?:=by
 unfold R5b at h
 simp[World.cell?,h]
theorem R5b.frozen(h:R5b w rb nb fr bl lv)(i:Nat):w.frozen? ⟨rb,i,none⟩=false:=by
 unfold R5b at h
 simp[World.frozen?,h]
theorem R5b.lt(h:R5b w rb nb fr bl lv):rb<w.heap.size:=(Array.getElem?_eq_some_iff.1 h).1
theorem R5b.set(h:R5b w rb nb fr bl lv)(v:Value):R5b (w.setCell ⟨rb,3,none⟩ v) rb nb fr bl v:=by
 unfold R5b at *
 simp only[World.setCell,Array.getElem?_modify]
 rw[h]
 simp
theorem rnew5_any(nb fr bl:Nat)(hnb:nb<=524288)(w:World) :
  Calls Tryz.prog 23 #[.int .i64 (nb:Int),.int .i64 (fr:Int),.int .i64 (bl:Int)] w fun e w'=>∃lv,e=.returned (.pointer (some ⟨w.heap.size,0,none⟩))/\R5b w' w.heap.size nb fr bl lv/\w'.ownsRow (w.heap.size+1) 9 1 lv nb (List.replicate nb (.string (strOfNums (zeros 512))))/\Below w.heap.size w w':=by
 obtain⟨PO,hPO⟩:∃PO:Ending->World->Prop,PO=fun e w'=>∃lv,e=.returned (.pointer (some ⟨w.heap.size,0,none⟩))/\R5b w' w.heap.size nb fr bl lv/\w'.ownsRow (w.heap.size+1) 9 1 lv nb (List.replicate nb (.string (strOfNums (zeros 512))))/\Below w.heap.size w w':=⟨_,rfl⟩
 rw[<- hPO]
 obtain⟨i9,hi9,hz9,hs9,hb9⟩:=info_parts info9
 have hmk':∀u:World,(Instr.makeSlice 40 (.int .i64 512) (.int .i64 512)).run Tryz.prog u=.ok (.slice (some ⟨u.heap.size,0,none⟩) 512 512) (u.alloc (.cells ((zeros 512).map (Value.int .u8)).toArray 5)):=fun u=>make_u8 512 (by decide) u
 obtain⟨w1,hw1⟩:∃w1,w1=w.alloc (.cells #[.int .i64 (nb:Int),.int .i64 (fr:Int),.int .i64 (bl:Int),.slice none 0 0,.slice none 0 0,.int .i64 0,.pointer none,.bool false] 67):=⟨_,rfl⟩
 have z1:w1.heap.size=w.heap.size+1:=by rw[hw1];simp
 have b1:Below w.heap.size w w1:=by rw[hw1];exact (Below.refl _ _).alloc (Nat.le_refl _) _
 have r1:R5b w1 w.heap.size nb fr bl (.slice none 0 0):=by rw[hw1];exact Array.getElem?_push_size
 obtain⟨w2,hw2⟩:∃w2,w2=w1.alloc (.cells ((zeros 512).map (Value.int .u8)).toArray 5):=⟨_,rfl⟩
 have z2:w2.heap.size=w.heap.size+2:=by rw[hw2];simp[z1]
 have b2:Below w1.heap.size w1 w2:=by rw[hw2];exact (Below.refl _ _).alloc (Nat.le_refl _) _
 have o2:Own w2 (w.heap.size+1) 512 512 (zeros 512):=by
  rw[hw2,<- z1]
  exact Own.of_blk (Array.getElem?_push_size) (by simp[zeros]) (by unfold maxLen;omega)
 have hcv:=conv_str (o2.rdn (X:=fun _=>False) (isB_zeros' _) (fun q=>q)).rd 512
 have H0:Hid (R5b w2 w.heap.size nb fr bl (.slice none 0 0)/\Below w.heap.size w w2):=⟨(b2.block _ r1.lt).trans r1,b1.trans (b2.mono b1.size)⟩
 have HW1:Hid (w.alloc (.cells #[.int .i64 (nb:Int),.int .i64 (fr:Int),.int .i64 (bl:Int),.slice none 0 0,.slice none 0 0,.int .i64 0,.pointer none,.bool false] 67)=w1):=hw1.symm
 have HW2:Hid (w1.alloc (.cells ((zeros 512).map (Value.int .u8)).toArray 5)=w2):=hw2.symm
 have HP:Hid (∀w' lv,R5b w' w.heap.size nb fr bl lv->w'.ownsRow (w.heap.size+1) 9 1 lv nb (List.replicate nb (.string (strOfNums (zeros 512))))->Below w.heap.size w w'->PO (.returned (.pointer (some ⟨w.heap.size,0,none⟩))) w'):=fun w' lv q1 q2 q3=>by
  rw[hPO];exact⟨lv,rfl,q1,q2,q3⟩
 generalize strOfNums (zeros 512)=S at *
 clear hPO b1 r1 b2 o2 hw1 hw2
 go_enter Tryz.func23,Tryz.ntmps23
 go_wp2_with fail
 rw[HW1.out,HW2.out,hcv]
 clear HW1 HW2 hmk'
 go_wp2_with fail
 go_loopw [9] (fun iv wr=>∃(q:Nat) (lv:Value),q<=nb/\iv=.int .i64 (q:Int)/\R5b wr w.heap.size nb fr bl lv/\wr.ownsRow (w.heap.size+1) 9 1 lv q (List.replicate q (.string S))/\Below w.heap.size w wr) (fun iv _=>nb-(intOf iv).toNat)
 case atStart=>exact⟨0,_,Nat.zero_le _,rfl,H0.out.1,⟨rfl,.inl ⟨rfl,rfl⟩⟩,H0.out.2⟩
 case round=>
  clear H0 hcv
  obtain⟨q,lv,hqN,rfl,hr,hrow,hbt⟩:=hrel
  by_cases hq:q<nb
  ·have hq':(q:Int)<(nb:Int):=by omega
   have k3:=hr.cell 3
   have kf:=hr.frozen 3
   simp at k3
   have hrl:=hr.lt
   have hs:=hbt.size
   have HRow2:=hid (owns_below hrow ((Below.refl wr.heap.size wr).alloc (Nat.le_refl _) (.cells #[.string S] 9)))
   have HR:=hid hr
   have HBT:=hid hbt
   have HO:=hid hrow
   clear hr hrow hbt HP
   go_wp2_with (at_builtin;refine wpList_append_lies _ rfl _ _ _ rfl (w.heap.size+1) 9 i9 (.string ByteArray.empty) 1 16 Tryz.underlying64 hi9 hz9 hs9 hb9 rfl (by decide) _ q _ rfl (by exact HRow2.out) ⟨wr.heap.size,0,none⟩ 1 1 [.string S] rfl rfl (by exact newsI1 wr _ _) (by intro u hu;simp at hu;subst hu;rfl) (by decide) (by unfold maxLen;omega) (by omega) (by simp;omega) (wr.heap.size+1) (by simp) ?_)
   intro g4 cap4 w6 ho4 hg4 hlie4 hl4
   have hrb:lv.ownBlock≠some w.heap.size:=fun e=>by
    have:=(World.ownsRow.lt HO.out w.heap.size e).1
    omega
   have h6:w6.heap[w.heap.size]?=wr.heap[w.heap.size]?:=(hg4.block w.heap.size (by simp;omega) hrb.symm).trans (Below.heap_alloc _ _ _ hrl)
   have r6:R5b w6 w.heap.size nb fr bl lv:=h6.trans HR.out
   have b6:Below w.heap.size w w6:=(((But.of_below HBT.out (X:=fun k=>w.heap.size+1<=k)).alloc (.cells #[.string S] 9)).of_grown hg4 (fun x e _=>(World.ownsRow.lt HO.out x e).1)).below (Nat.le_refl _) (fun k hk q=>by omega)
   have k6:=r6.cell 3
   have f6:=r6.frozen 3
   simp at k6
   have hg4l:=(World.ownsRow.lt ho4 g4 rfl).1
   have FIN:Hid (R5b (w6.setCell ⟨w.heap.size,3,none⟩ (.slice (some ⟨g4,0,none⟩) (q+1) cap4)) w.heap.size nb fr bl (.slice (some ⟨g4,0,none⟩) (q+1) cap4)/\(w6.setCell ⟨w.heap.size,3,none⟩ (.slice (some ⟨g4,0,none⟩) (q+1) cap4)).ownsRow (w.heap.size+1) 9 1 (.slice (some ⟨g4,0,none⟩) (q+1) cap4) (q+1) (List.replicate (q+1) (.string S))/\Below w.heap.size w (w6.setCell ⟨w.heap.size,3,none⟩ (.slice (some ⟨g4,0,none⟩) (q+1) cap4))):=by
    refine⟨r6.set _,?_,?_⟩
    ·rw[List.replicate_succ']
     exact owns_setCell ho4 (fun e=>by injection e with e;simp only at e;omega) _
    ·exact (((But.of_below b6 (X:=fun k=>w.heap.size<=k))).setCell (p:=⟨w.heap.size,3,none⟩) (Nat.le_refl _) _).below (Nat.le_refl _) (fun k hk q=>by omega)
   clear ho4 hg4 hlie4 hl4 h6 r6 b6 HRow2 HR HBT HO k3 kf hrb
   go_wp2_with fail
   go_roundw
   case rel=>exact⟨q+1,_,by omega,by go_num,FIN.out.1,FIN.out.2.1,FIN.out.2.2⟩
   case measure=>simp[intOf];omega
  ·have hqe:q=nb:=by omega
   have hq':¬(q:Int)<(nb:Int):=by omega
   subst hqe
   have FIN:=hid (HP.out wr lv hr hrow hbt)
   clear hr hrow hbt HP
   go_wp2
   exact FIN.out
open Go.RowKit Go.Deep
open Go.RowKit Go.Deep
def StrL (w:World) (v:Value) (xs:List ByteArray):Prop:=∃a c,v=.slice a xs.length c/\∀i S,xs[i]?=some S->∃g,a=some ⟨g,0,none⟩/\g<w.heap.size/\w.cell? ⟨g,i,none⟩=some (.string S)
theorem StrL.of_row{base:Nat}{v:Value}{xs:List ByteArray}(hn:xs.length=n)(h:w.ownsRow base 9 1 v n (xs.map Value.string)):StrL w v xs:=by
 subst hn
 obtain⟨a,c,rfl,_⟩:=owns_slice h
 refine⟨a,c,rfl,fun i S hi=>?_⟩
 have hil:i<xs.length:=(List.getElem?_eq_some_iff.1 hi).1
 rcases h.2 with ⟨_,q⟩ | ⟨g,cap,cur,q1,q2,_⟩
 ·omega
 ·simp at q1
  have hlt:=(World.ownsRow.lt h g (by rw[q1.1];rfl)).2
  refine⟨g,q1.1,hlt,?_⟩
  have hcell:=World.ownsRow.cellAt (by rw[q1.1]at h;exact h) i (by simp;omega)
  rw[hcell]
  simp[hi]
open Go.RowKit Go.Deep
end Go.Proofs.YthfojpcibnfmgaaGreat
