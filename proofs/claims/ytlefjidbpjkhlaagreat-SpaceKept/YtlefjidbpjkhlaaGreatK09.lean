import Derived.Test.YtlefjidbpjkhlaaGreatK06
import Derived.Test.YtlefjidbpjkhlaaGreatK08
import Derived.Deep.RegionLaw
set_option maxRecDepth 100000
set_option maxHeartbeats 16000000
namespace Go.Proofs.YtlefjidbpjkhlaaGreat
variable {mv v:Value}
variable {w w' w1 w2:World}
variable {K K' bl c cp j k m n p:Nat}
variable {zs:List Int}
variable {Y Z Zc:Nat->Prop}
variable {d:Pd}
open Go.RowKit
def slElem:Value->Option (DataW (Nat×Nat)×List MemPlace)
 | .slice none 0 0=>some (.nil,[])
 | .slice (some ⟨g,0,none⟩) 512 c=>some (.held (g,c),[])
 | _=>none
theorem slElem_inv{q:Nat×Nat}{ps:List MemPlace}(h:slElem v=some (.held q,ps)):v=.slice (some ⟨q.1,0,none⟩) 512 q.2:=by
 unfold slElem at h
 split at h
 ·cases h
 ·cases h;rfl
 ·cases h
def cntA (a:Nat->Option (Nat×Nat)):Nat->Nat
 | 0=>0
 | n+1=>cntA a n+if (a n).isSome then 1 else 0
theorem cntA_le(a:Nat->Option (Nat×Nat))(n:Nat):cntA a n<=n:=by
 induction n with
 | zero=>exact Nat.le_refl _
 | succ n ih=>unfold cntA;split <;> omega
structure AM (nb:Nat) (D:DataW (Nat×Nat)) (a:Nat->Option (Nat×Nat)):Prop where
 tidy:Maps.Tidy D
 cnt:Maps.size D<=cntA a nb
 hit:∀x q,a x=some q->Maps.has D (.int .i64 (x:Int))=true/\∀z,D.atKey (.int .i64 (x:Int)) z=.held q
 miss:∀x:Int,(∀y:Nat,(y:Int)=x->a y=none)->Maps.has D (.int .i64 x)=false
theorem AM.nil(nb:Nat):AM nb (.map []) (fun _=>none):=⟨Maps.tidy_empty,Nat.zero_le _,fun x q h=>(by cases h),fun _ _=>rfl⟩
def putA (a:Nat->Option (Nat×Nat)) (x:Nat) (q:Nat×Nat):Nat->Option (Nat×Nat):=fun y=>if y=x then some q else a y
theorem cnt_putA(a:Nat->Option (Nat×Nat))(x:Nat)(q:Nat×Nat)(n:Nat):cntA (putA a x q) n=cntA a n+if x<n/\a x=none then 1 else 0:=by
 induction n with
 | zero=>simp[cntA]
 | succ n ih=>
  unfold cntA
  rw[ih]
  by_cases e:n=x
  ·subst e
   have h1:(putA a n q n).isSome=true:=by simp[putA]
   rw[h1]
   cases ha:a n <;> simp
  ·have h1:putA a x q n=a n:=by simp[putA,e]
   rw[h1]
   by_cases h2:x<n
   ·have h3:x<n+1:=by omega
    simp only[h2,h3,true_and]
    omega
   ·have h3:¬x<n+1:=by omega
    simp only[h2,h3,false_and,if_false]
    omega
theorem AM.put{nb:Nat}{D:DataW (Nat×Nat)}{a:Nat->Option (Nat×Nat)}(h:AM nb D a)(x:Nat)(hx:x<nb)(q:Nat×Nat):AM nb (D.put (.int .i64 (x:Int)) (.held q)) (putA a x q):=by
 have hk:WideAt.IsKeyLit (.int .i64 (x:Int)):=trivial
 refine⟨h.tidy.put hk _,?_,fun y r hr=>?_,fun y hy=>?_⟩
 ·rw[Maps.size_put h.tidy,cnt_putA]
  have hc:=h.cnt
  cases ha:a x with
  | none=>
   simp only[hx,true_and,if_true]
   split <;> omega
  | some r=>
   rw[(h.hit x r ha).1]
   simp
   omega
 ·by_cases e:y=x
  ·subst e
   have:q=r:=by simpa [putA] using hr
   subst this
   exact⟨Maps.has_put_same h.tidy.isMap hk _,fun z=>Maps.atKey_put_same h.tidy.isMap hk _ z⟩
  ·have hne:(Lit.int .i64 (y:Int))≠.int .i64 (x:Int):=fun q=>e (by injection q with _ q;omega)
   have hr':a y=some r:=by simpa [putA,e] using hr
   exact⟨by rw[Maps.has_put_other hne];exact (h.hit y r hr').1,fun z=>by rw[Maps.atKey_put_other hne];exact (h.hit y r hr').2 z⟩
 ·have hne:(Lit.int .i64 y)≠.int .i64 (x:Int):=fun q=>by
   injection q with _ q
   have:=hy x q.symm
   simp[putA]at this
  rw[Maps.has_put_other hne]
  refine h.miss y (fun t ht=>?_)
  have:=hy t ht
  unfold putA at this
  split at this
  ·cases this
  ·exact this
structure Js where
 life:Nat
 seq:Nat
 used:Nat
 ah:Nat->Option (List Int)
theorem mapB_lt{mp:Nat}{D:DataW (Nat×Nat)}(h:w.ownsMap Tryz.prog 3 slElem mp n D):mp<w.heap.size:=h.lt
theorem mapB_keep{mp:Nat}{D:DataW (Nat×Nat)}(h:w.ownsMap Tryz.prog 3 slElem mp n D)(hk:w'.heap[mp]?=w.heap[mp]?):w'.ownsMap Tryz.prog 3 slElem mp n D:=by
 obtain⟨es,ck,h1,h2⟩:=h
 exact⟨es,ck,hk.trans h1,h2⟩
structure JqW (Z Zc:Nat->Prop) (w:World) (j c p room nb K fr bl m n:Nat) (D:DataW (Nat×Nat)) (a:Nat->Option (Nat×Nat)) (d:Pd) (s:Js):Prop where
 cq:Cq Zc w c p room nb K d
 jb:Jb w j c fr bl s.life s.seq s.used (.map (some m))
 mp:w.ownsMap Tryz.prog 3 slElem m n D
 am:AM nb D a
 dat:∀x g cp,a x=some (g,cp)->∃zs,s.ah x=some zs/\Own w g 512 cp zs/\Pl.isB zs/\x<nb/\¬Zc g/\Z g
 non:∀x,a x=none->s.ah x=none
 nj:¬Zc j
 nm:¬Zc m
 zj:Z j
 zm:Z m
 sub:∀k,Zc k->Z k
 sz:n<=nb
def Jq (Z:Nat->Prop) (w:World) (j c p room nb K fr bl:Nat) (d:Pd) (s:Js):Prop:=∃Zc m n D a,JqW Z Zc w j c p room nb K fr bl m n D a d s
theorem Jb.ne_map{fr bl life seq used:Int}{mp:Nat}{D:DataW (Nat×Nat)}(h:Jb w j c fr bl life seq used mv)(hm:w.ownsMap Tryz.prog 3 slElem mp n D):j≠mp:=fun q=>by
 obtain⟨es,ck,h1,_⟩:=hm
 unfold Jb at h
 rw[<- q,h]at h1
 cases h1
theorem Own.ne_jb{g:Nat}{fr bl life seq used:Int}(ho:Own w g k cp zs)(h:Jb w j c fr bl life seq used mv):g≠j:=fun q=>by
 obtain⟨cur,hc⟩:=ho.kind
 unfold Jb at h
 rw[q,h]at hc
 simp at hc
theorem Own.ne_mapB{g mp:Nat}{D:DataW (Nat×Nat)}(ho:Own w g k cp zs)(hm:w.ownsMap Tryz.prog 3 slElem mp n D):g≠mp:=fun q=>by
 obtain⟨es,ck,h1,_⟩:=hm
 obtain⟨cur,hc⟩:=ho.kind
 rw[q,h1]at hc
 cases hc
theorem JqW.turn{Zc':Nat->Prop}{room nb fr:Nat}{D:DataW (Nat×Nat)}{a:Nat->Option (Nat×Nat)}{d':Pd}{s:Js}(h:JqW Z Zc w j c p room nb K fr bl m n D a d s)(hc:Cq Zc' w' c p room nb K' d')(hg:Gr Zc Zc' w)(hb:But Zc w w') :
  JqW (fun k=>(Z k/\k<w.heap.size)\/Zc' k) Zc' w' j c p room nb K' fr bl m n D a d' s where
 cq:=hc
 jb:=(hb.block j h.jb.lt h.nj).trans h.jb
 mp:=mapB_keep h.mp (hb.block m (mapB_lt h.mp) h.nm)
 am:=h.am
 dat:=fun x g cp hx=>by
  obtain⟨zs,h1,h2,h3,h4,h5,h6⟩:=h.dat x g cp hx
  exact⟨zs,h1,h2.keep (hb.block g h2.lt h5),h3,h4,fun q=>h5 (hg g h2.lt q),.inl ⟨h6,h2.lt⟩⟩
 non:=h.non
 nj:=fun q=>h.nj (hg j h.jb.lt q)
 nm:=fun q=>h.nm (hg m (mapB_lt h.mp) q)
 zj:=.inl ⟨h.zj,h.jb.lt⟩
 zm:=.inl ⟨h.zm,mapB_lt h.mp⟩
 sub:=fun k q=>.inr q
 sz:=h.sz
theorem JqW.turn_gr{Zc':Nat->Prop}(hs:∀k,Zc k->Z k)(hg:Gr Zc Zc' w):Gr Z (fun k=>(Z k/\k<w.heap.size)\/Zc' k) w:=fun k hk q=>by
 rcases q with q | q
 ·exact q.1
 ·exact hs k (hg k hk q)
theorem JqW.keep{room nb fr:Nat}{D:DataW (Nat×Nat)}{a:Nat->Option (Nat×Nat)}{s:Js}(h:JqW Z Zc w j c p room nb K fr bl m n D a d s)(hk:∀x,Z x->x<w.heap.size->w'.heap[x]?=w.heap[x]?)(hs:w.heap.size<=w'.heap.size):JqW Z Zc w' j c p room nb K fr bl m n D a d s where
 cq:=h.cq.keep (fun x q hx=>hk x (h.sub x q) hx) hs
 jb:=(hk j h.zj h.jb.lt).trans h.jb
 mp:=mapB_keep h.mp (hk m h.zm (mapB_lt h.mp))
 am:=h.am
 dat:=fun x g cp hx=>by
  obtain⟨zs,h1,h2,h3,h4,h5,h6⟩:=h.dat x g cp hx
  exact⟨zs,h1,h2.keep (hk g h6 h2.lt),h3,h4,h5,h6⟩
 non:=h.non
 nj:=h.nj
 nm:=h.nm
 zj:=h.zj
 zm:=h.zm
 sub:=h.sub
 sz:=h.sz
theorem Jq.keep{room nb fr:Nat}{s:Js}(h:Jq Z w j c p room nb K fr bl d s)(hk:∀x,Z x->x<w.heap.size->w'.heap[x]?=w.heap[x]?)(hs:w.heap.size<=w'.heap.size):Jq Z w' j c p room nb K fr bl d s:=by
 obtain⟨Zc,m,n,D,a,h⟩:=h
 exact⟨Zc,m,n,D,a,h.keep hk hs⟩
theorem Jq.below{room nb fr:Nat}{s:Js}(h:Jq Z w j c p room nb K fr bl d s)(hb:Below w.heap.size w w'):Jq Z w' j c p room nb K fr bl d s:=h.keep (fun x _ h2=>hb.block x h2) hb.size
theorem Jq.but{room nb fr:Nat}{s:Js}(h:Jq Z w j c p room nb K fr bl d s)(hb:But Y w w')(hy:∀k,k<w.heap.size->Z k->¬Y k):Jq Z w' j c p room nb K fr bl d s:=h.keep (fun x h1 h2=>hb.block x h2 (hy x h2 h1)) hb.size
theorem Jq.cells{room nb fr:Nat}{s:Js}(h:Jq Z w j c p room nb K fr bl d s):∃mv,Jb w j c fr bl s.life s.seq s.used mv/\Z j:=by
 obtain⟨Zc,m,n,D,a,h⟩:=h
 exact⟨_,h.jb,h.zj⟩
theorem Jq.write{room nb fr:Nat}{s:Js}(h:Jq Z w j c p room nb K fr bl d s)(hl:d.puts.length<=1073741823)(x:Nat)(hx:x<nb)(ad:Option Addr)(cp:Nat)(zs:List Int)(hR:RdN Z w ad 512 zs) :
  Calls Tryz.prog 178 #[.pointer (some ⟨c,0,none⟩),.int .i64 (x:Int),.slice ad 512 cp] w fun e w'=>e=.returned (.int .i64 (d.run1 (.wr x zs)).1)/\(∃Z',Jq Z' w' j c p room nb K fr bl (d.run1 (.wr x zs)).2 s/\Gr Z Z' w)/\But Z w w':=by
 obtain⟨Zc,m,n,D,a,h⟩:=h
 refine Calls.mono (h.cq.write hl x hx ad cp zs (hR.mono (fun k _ q=>h.sub k q))) ?_
 rintro e w' ⟨rfl,⟨Zc',q1,q2⟩,b⟩
 exact⟨rfl,⟨_,⟨Zc',m,n,D,a,h.turn q1 q2 b⟩,JqW.turn_gr h.sub q2⟩,b.mono (fun k _ q=>h.sub k q)⟩
theorem Jq.writeOwn{room nb fr:Nat}{D:DataW (Nat×Nat)}{a:Nat->Option (Nat×Nat)}{s:Js}(h:JqW Z Zc w j c p room nb K fr bl m n D a d s)(hl:d.puts.length<=1073741823)(x:Nat)(hx:x<nb)(g cp:Nat)(zs:List Int)(ho:Own w g 512 cp zs)(hz:Pl.isB zs)(hg:¬Zc g) :
  Calls Tryz.prog 178 #[.pointer (some ⟨c,0,none⟩),.int .i64 (x:Int),.slice (some ⟨g,0,none⟩) 512 cp] w fun e w'=>e=.returned (.int .i64 (d.run1 (.wr x zs)).1)/\(∃Z' Zc',JqW Z' Zc' w' j c p room nb K fr bl m n D a (d.run1 (.wr x zs)).2 s/\Gr Z Z' w)/\But Zc w w':=by
 refine Calls.mono (h.cq.write hl x hx (some ⟨g,0,none⟩) cp zs (ho.rdn hz hg)) ?_
 rintro e w' ⟨rfl,⟨Zc',q1,q2⟩,b⟩
 exact⟨rfl,⟨_,Zc',h.turn q1 q2 b,JqW.turn_gr h.sub q2⟩,b⟩
theorem Jq.flush{room nb fr:Nat}{s:Js}(h:Jq Z w j c p room nb K fr bl d s)(hl:d.puts.length<=1073741824) :
  Calls Tryz.prog 121 #[.pointer (some ⟨c,0,none⟩)] w fun e w'=>e=.returned (.int .i64 (d.run1 .fl).1)/\(∃Z',Jq Z' w' j c p room nb K fr bl (d.run1 .fl).2 s/\Gr Z Z' w)/\But Z w w':=by
 obtain⟨Zc,m,n,D,a,h⟩:=h
 refine Calls.mono (h.cq.flush hl) ?_
 rintro e w' ⟨rfl,⟨Zc',q1,q2⟩,b⟩
 exact⟨rfl,⟨_,⟨Zc',m,n,D,a,h.turn q1 q2 b⟩,JqW.turn_gr h.sub q2⟩,b.mono (fun k _ q=>h.sub k q)⟩
theorem Jq.fits{room nb fr:Nat}{s:Js}(h:Jq Z w j c p room nb K fr bl d s):d.Fits nb/\1<=nb/\nb<=524288:=by
 obtain⟨Zc,m,n,D,a,h⟩:=h
 exact h.cq.fits
theorem Jq.dk{room nb fr:Nat}{s:Js}(h:Jq Z w j c p room nb K fr bl d s):Dk Z w p d.img d.puts d.fu d.off nb/\w.cell? ⟨c,0,none⟩=some (.pointer (some ⟨p,0,none⟩))/\c<w.heap.size:=by
 obtain⟨Zc,m,n,D,a,h⟩:=h
 exact⟨h.cq.dk.mono h.sub,h.cq.c0.1,h.cq.c0.2.1⟩
open Go.RowKit
def blankB (fr bl:Nat):List Int:=packZ [(3,(fr:Int)),(3,(bl:Int))]
def headB (fr bl seq:Nat):List Int:=packZ [(3,(fr:Int)),(3,(bl:Int)),(8,(seq:Int))]
theorem okF_blank{fr:Nat}(h1:fr<=524288)(h2:bl<=524288):okF [(3,(fr:Int)),(3,(bl:Int))]:=by
 intro f hf
 simp at hf
 rcases hf with rfl | rfl
 ·unfold chk wfB;simp;omega
 ·unfold chk wfB;simp;omega
theorem okF_head{fr seq:Nat}(h1:fr<=524288)(h2:bl<=524288)(h3:seq<=1099511627776):okF [(3,(fr:Int)),(3,(bl:Int)),(8,(seq:Int))]:=by
 intro f hf
 simp at hf
 rcases hf with rfl | rfl | rfl
 ·unfold chk wfB;simp;omega
 ·unfold chk wfB;simp;omega
 ·unfold chk wfB;simp;omega
theorem length_blankB(fr bl:Nat):(blankB fr bl).length=6:=by simp[blankB,packZ,Pl.dig]
theorem length_headB(fr bl seq:Nat):(headB fr bl seq).length=14:=by simp[headB,packZ,Pl.dig]
theorem blankBody_any{fr:Nat}(h1:fr<=524288)(h2:bl<=524288)(w:World):Calls Tryz.prog 269 #[.agg #[.int .i64 (fr:Int),.int .i64 (bl:Int)]] w fun e w'=>∃g,e=.returned (.slice (some ⟨g,0,none⟩) 6 6)/\w.heap.size<=g/\Blk .u8 5 w' g (blankB fr bl)/\Below w.heap.size w w':=by
 obtain⟨w1,hw1⟩:∃w1,w1=w.alloc (.cells #[.int .i64 (fr:Int),.int .i64 (bl:Int)] 238):=⟨_,rfl⟩
 have HF:=hid (fields_any (fr:Int) (bl:Int) w1)
 have b1:Below w.heap.size w w1:=by rw[hw1];exact (Below.refl _ _).alloc (Nat.le_refl _) _
 have z1:w1.heap.size=w.heap.size+1:=by rw[hw1];simp
 have B1:=hid b1
 clear b1
 have HP:Hid (∀w2,w2=(w1.alloc (.cells #[.int .i64 (fr:Int),.int .i64 (bl:Int)] 148)).alloc (.cells #[.int .i64 3,.int .i64 (fr:Int),.int .i64 3,.int .i64 (bl:Int)] 204)->Calls Tryz.prog 179 #[.slice (some ⟨w1.heap.size+1,0,none⟩) 2 2] w2 fun e w'=>∃g,e=.returned (.slice (some ⟨g,0,none⟩) 6 6)/\w.heap.size<=g/\Blk .u8 5 w' g (blankB fr bl)/\Below w.heap.size w w'):=fun w2 hw2=>by
  have z2:w2.heap.size=w1.heap.size+2:=by rw[hw2];simp
  have b2:Below w.heap.size w w2:=by rw[hw2];exact (B1.out.alloc (by omega) _).alloc (by simp;omega) _
  refine Calls.mono (packed_any _ 2 2 [(3,(fr:Int)),(3,(bl:Int))] w2 (by omega) ⟨rfl,fun f hf=>?_,.inr ⟨w1.heap.size+1,0,rfl,by omega,fun t ht=>?_⟩⟩ (okF_blank h1 h2)) ?_
  ·simp at hf;rcases hf with rfl | rfl <;> simp <;> omega
  ·have hs:(w1.alloc (.cells #[.int .i64 (fr:Int),.int .i64 (bl:Int)] 148)).heap.size=w1.heap.size+1:=by simp
   have hc:=fun i v h=>cell_new (vs:=#[.int .i64 3,.int .i64 (fr:Int),.int .i64 3,.int .i64 (bl:Int)]) (t:=204) hs i v h
   rw[hw2]
   rcases t with _ | _ | t
   ·exact⟨hc 0 _ rfl,hc 1 _ rfl⟩
   ·exact⟨hc 2 _ rfl,hc 3 _ rfl⟩
   ·omega
  ·rintro e w3 ⟨g,rfl,hg,hB,b3⟩
   exact⟨g,by rw[show (packZ [((3:Int),(fr:Int)),(3,(bl:Int))]).length=6 from length_blankB fr bl],by omega,hB,b2.trans (b3.mono (by omega))⟩
 clear h1 h2 B1 z1
 go_enter Tryz.func269,Tryz.ntmps269
 go_wp2_with fail
 rw[<- hw1]
 refine Calls.mono HF.out ?_
 rintro e w2 ⟨rfl,hw2⟩
 have HP2:=hid (HP.out w2 hw2)
 clear hw2 HP HF hw1
 go_wp2_with fail
 refine Calls.mono HP2.out ?_
 rintro e w3 ⟨g,rfl,q⟩
 have FIN:=hid q
 clear q HP2
 go_wp2
 go_ret
 exact⟨g,rfl,FIN.out⟩
open Go.RowKit
theorem info186:(Tryz.prog.info? 204).map (fun i=>(i.zero,i.size,i.bytes))=some (some (.agg #[.int .i64 0,.int .i64 0]),2,16):=by kernel_rfl
theorem head_ready(fr bl seq:Int)(hw2:w2=(w1.drew.alloc (.cells #[.int .i64 fr,.int .i64 bl] 148)).alloc (.cells #[.int .i64 3,.int .i64 fr,.int .i64 3,.int .i64 bl] 204)) :
  (w2.alloc (.cells #[.int .i64 8,.int .i64 seq] 204)).ownsRow 0 204 2 (.slice (some ⟨w1.heap.size+1,0,none⟩) 2 2) 2 [.int .i64 3,.int .i64 fr,.int .i64 3,.int .i64 bl]/\w2.heap.size=w1.heap.size+2/\Below w1.heap.size w1 w2:=by
 have z2:w2.heap.size=w1.heap.size+2:=by rw[hw2];simp
 refine⟨⟨rfl,.inr ⟨w1.heap.size+1,2,#[.int .i64 3,.int .i64 fr,.int .i64 3,.int .i64 bl],rfl,Nat.zero_le _,?_,Nat.le_refl _,by unfold maxLen;omega,rfl,rfl⟩⟩,z2,?_⟩
 ·rw[Below.heap_alloc _ _ _ (by omega),hw2]
  show ((w1.drew.alloc (.cells #[.int .i64 fr,.int .i64 bl] 148)).heap.push _)[w1.heap.size+1]?=_
  have hs:(w1.drew.alloc (.cells #[.int .i64 fr,.int .i64 bl] 148)).heap.size=w1.heap.size+1:=by simp
  have e:=Array.getElem?_push_size (xs:=(w1.drew.alloc (.cells #[.int .i64 fr,.int .i64 bl] 148)).heap) (x:=Obj.cells #[.int .i64 3,.int .i64 fr,.int .i64 3,.int .i64 bl] 204)
  rw[hs]at e
  exact e
 ·rw[hw2]
  exact (((Below.refl w1.heap.size w1).drew).alloc (Nat.le_refl _) _).alloc (by simp) _
theorem head_ready2(fr bl seq:Int)(hw2:w2=((w1.alloc (.cells #[.int .i64 8,.int .i64 seq] 204)).drew.alloc (.cells #[.int .i64 fr,.int .i64 bl] 148)).alloc (.cells #[.int .i64 3,.int .i64 fr,.int .i64 3,.int .i64 bl] 204)) :
  w2.ownsRow 0 204 2 (.slice (some ⟨w1.heap.size+1+1,0,none⟩) 2 2) 2 [.int .i64 3,.int .i64 fr,.int .i64 3,.int .i64 bl]/\w2.heap.size=w1.heap.size+3/\Below w1.heap.size w1 w2/\∀j y,[Value.int .i64 8,.int .i64 seq][j]?=some y->w2.cell? ((⟨w1.heap.size,0,none⟩:Addr).add j)=some y:=by
 have z2:w2.heap.size=w1.heap.size+3:=by rw[hw2];simp
 have b2:Below (w1.heap.size+1) (w1.alloc (.cells #[.int .i64 8,.int .i64 seq] 204)) w2:=by
  rw[hw2]
  exact (((Below.refl _ _).drew).alloc (by simp) _).alloc (by simp) _
 refine⟨⟨rfl,.inr ⟨w1.heap.size+1+1,2,#[.int .i64 3,.int .i64 fr,.int .i64 3,.int .i64 bl],rfl,Nat.zero_le _,?_,Nat.le_refl _,by unfold maxLen;omega,rfl,rfl⟩⟩,z2,?_,fun j y hj=>?_⟩
 ·rw[hw2]
  have hs:((w1.alloc (.cells #[.int .i64 8,.int .i64 seq] 204)).drew.alloc (.cells #[.int .i64 fr,.int .i64 bl] 148)).heap.size=w1.heap.size+1+1:=by simp
  have e:=Array.getElem?_push_size (xs:=((w1.alloc (.cells #[.int .i64 8,.int .i64 seq] 204)).drew.alloc (.cells #[.int .i64 fr,.int .i64 bl] 148)).heap) (x:=Obj.cells #[.int .i64 3,.int .i64 fr,.int .i64 3,.int .i64 bl] 204)
  rw[hs]at e
  exact e
 ·exact ((Below.refl w1.heap.size w1).alloc (Nat.le_refl _) _).trans (b2.mono (by omega))
 ·rw[<- news2 w1 (.int .i64 8) (.int .i64 seq) 204 j y hj]
  exact b2.cell (p:=(⟨w1.heap.size,0,none⟩:Addr).add j) (by simp only[Addr.add];split <;> exact Nat.lt_succ_self _)
theorem head_packed{w6:World}{g cap:Nat}{fr seq:Nat}(ok:okF [(3,(fr:Int)),(3,(bl:Int)),(8,(seq:Int))])(hb:Below w.heap.size w w6)(ho:w6.ownsRow 0 204 2 (.slice (some ⟨g,0,none⟩) 3 cap) 3 [.int .i64 3,.int .i64 (fr:Int),.int .i64 3,.int .i64 (bl:Int),.int .i64 8,.int .i64 (seq:Int)])(h1:fr<=524288)(h2:bl<=524288)(h3:seq<=1099511627776) :
  Calls Tryz.prog 179 #[.slice (some ⟨g,0,none⟩) 3 cap] w6 fun e w'=>∃g,e=.returned (.slice (some ⟨g,0,none⟩) 14 14)/\w.heap.size<=g/\Blk .u8 5 w' g (headB fr bl seq)/\Below w.heap.size w w':=by
 have hs:=hb.size
 refine Calls.mono (packed_any _ 3 cap [(3,(fr:Int)),(3,(bl:Int)),(8,(seq:Int))] w6 (by omega) ⟨rfl,fun f hf=>?_,.inr ⟨g,0,rfl,(World.ownsRow.lt ho g rfl).2,fun t ht=>?_⟩⟩ ok) ?_
 ·simp at hf;rcases hf with rfl | rfl | rfl <;> simp <;> omega
 ·have hc:=fun i (hi:i<6)=>World.ownsRow.cellAt ho i hi
  rcases t with _ | _ | _ | t
  ·exact⟨hc 0 (by omega),hc 1 (by omega)⟩
  ·exact⟨hc 2 (by omega),hc 3 (by omega)⟩
  ·exact⟨hc 4 (by omega),hc 5 (by omega)⟩
  ·omega
 ·rintro e w3 ⟨g,rfl,hg,hB,b3⟩
  exact⟨g,by rw[show (packZ [((3:Int),(fr:Int)),(3,(bl:Int)),(8,(seq:Int))]).length=14 from length_headB fr bl seq],by omega,hB,hb.trans (b3.mono (by omega))⟩
theorem headBody_any{fr seq:Nat}(h1:fr<=524288)(h2:bl<=524288)(h3:seq<=1099511627776)(w:World):Calls Tryz.prog 266 #[.agg #[.int .i64 (fr:Int),.int .i64 (bl:Int),.int .i64 (seq:Int)]] w fun e w'=>∃g,e=.returned (.slice (some ⟨g,0,none⟩) 14 14)/\w.heap.size<=g/\Blk .u8 5 w' g (headB fr bl seq)/\Below w.heap.size w w':=by
 obtain⟨w1,hw1⟩:∃w1,w1=w.alloc (.cells #[.int .i64 (fr:Int),.int .i64 (bl:Int),.int .i64 (seq:Int)] 233):=⟨_,rfl⟩
 have hb1:w1.heap[w.heap.size]?=some (.cells #[.int .i64 (fr:Int),.int .i64 (bl:Int),.int .i64 (seq:Int)] 233 (0,0)):=by
  rw[hw1]
  show (w.heap.push _)[w.heap.size]?=_
  simp
 have z1:Hid (w1.heap.size=w.heap.size+1):=by rw[hw1];exact (by simp:(w.alloc _).heap.size=w.heap.size+1)
 have b1:Hid (Below w.heap.size w w1):=by rw[hw1];exact (Below.refl w.heap.size w).alloc (Nat.le_refl _) _
 have k0:w1.cell? ⟨w.heap.size,0,none⟩=some (.int .i64 (fr:Int)):=by simp[World.cell?,hb1]
 have k1:w1.cell? ⟨w.heap.size,1,none⟩=some (.int .i64 (bl:Int)):=by simp[World.cell?,hb1]
 have k2:w1.cell? ⟨w.heap.size,2,none⟩=some (.int .i64 (seq:Int)):=by simp[World.cell?,hb1]
 have HPK:Hid (∀(w6:World) (g cap:Nat),Below w.heap.size w w6->w6.ownsRow 0 204 2 (.slice (some ⟨g,0,none⟩) 3 cap) 3 [.int .i64 3,.int .i64 (fr:Int),.int .i64 3,.int .i64 (bl:Int),.int .i64 8,.int .i64 (seq:Int)]->_):=fun w6 g cap q1 q2=>head_packed (w:=w) (okF_head h1 h2 h3) q1 q2 h1 h2 h3
 have k0a:(w1.alloc (.cells #[.int .i64 8,.int .i64 (seq:Int)] 204)).cell? ⟨w.heap.size,0,none⟩=some (.int .i64 (fr:Int)):=(World.cell?_alloc_past _ _ _ (by have:=z1.out;show w.heap.size<_;omega)).trans k0
 have k1a:(w1.alloc (.cells #[.int .i64 8,.int .i64 (seq:Int)] 204)).cell? ⟨w.heap.size,1,none⟩=some (.int .i64 (bl:Int)):=(World.cell?_alloc_past _ _ _ (by have:=z1.out;show w.heap.size<_;omega)).trans k1
 clear hb1 h1 h2 h3
 obtain⟨i186,hi186,hz186,hs186,hb186⟩:=info_parts info186
 go_enter Tryz.func266,Tryz.ntmps266
 go_wp2_with fail
 rw[<- hw1]
 clear hw1
 go_region_law (first
  | (go_simp;go_at_call 268;refine Calls.mono (fields_any _ _ _) ?_;rintro e w2 ⟨rfl,hw2⟩;have HW2:=hid (head_ready (fr:Int) (bl:Int) (seq:Int) hw2);have c2:w2.cell? ⟨w.heap.size,2,none⟩=some (.int .i64 (seq:Int)):=(HW2.out.2.2.cell (p:=⟨w.heap.size,2,none⟩) (by have:=z1.out;show w.heap.size<_;omega)).trans k2;clear hw2;dsimp only)
  | (go_simp;go_at_call 268;refine Calls.mono (fields_any _ _ _) ?_;rintro e w2 ⟨rfl,hw2⟩;have HX2:=hid (head_ready2 (fr:Int) (bl:Int) (seq:Int) hw2);clear hw2;dsimp only)
  | (refine step_append_lies _ (by rfl) _ _ _ (by rfl) 0 204 i186 (.agg #[.int .i64 0,.int .i64 0]) 2 16 Tryz.underlying242 hi186 hz186 hs186 hb186 rfl (by decide) _ 2 _ (by rfl) (by exact HX2.out.1) ⟨w1.heap.size,0,none⟩ 1 1 [.int .i64 8,.int .i64 (seq:Int)] (by rfl) (by rfl) (by exact HX2.out.2.2.2) (by intro u hu;simp at hu;rcases hu with rfl | rfl <;> rfl) (by decide) (by unfold maxLen;omega) (by omega) (by omega) (w2.heap.size) (by rfl) ?_;intro g4 cap4 w6 ho4 hg4 hlie4 _;have HO5:=hid ho4;have HG5:=hid hg4;clear ho4 hg4 hlie4)
  | (go_simp;go_at_call 179;refine Calls.mono (HPK.out w6 g4 cap4 (((But.of_below b1.out (X:=fun x=>w.heap.size<=x)).trans (But.of_below HX2.out.2.2.1)).of_grown HG5.out (fun x e _=>by have:=z1.out;cases e;show w.heap.size<=w1.heap.size+1+1;omega)|>.below (Nat.le_refl _) (fun k hk q=>by omega)) HO5.out) ?_;rintro e w7 ⟨g7,rfl,q7⟩;have FIN:=hid q7;clear q7;dsimp only)
  | (refine step_append_lies _ (by rfl) _ _ _ (by rfl) 0 204 i186 (.agg #[.int .i64 0,.int .i64 0]) 2 16 Tryz.underlying242 hi186 hz186 hs186 hb186 rfl (by decide) _ 2 _ (by rfl) (by exact HW2.out.1) ⟨w2.heap.size,0,none⟩ 1 1 [.int .i64 8,.int .i64 (seq:Int)] (by rfl) (by rfl) (by exact news2 w2 _ _ _) (by intro u hu;simp at hu;rcases hu with rfl | rfl <;> rfl) (by decide) (by unfold maxLen;omega) (by omega) (by omega) (w2.heap.size+1) (by simp) ?_;intro g4 cap4 w6 ho4 hg4 hlie4 _;have HO4:=hid ho4;have HG4:=hid hg4;clear ho4 hg4 hlie4)
  | (go_simp;go_at_call 179;refine Calls.mono (HPK.out w6 g4 cap4 (((((But.of_below b1.out (X:=fun x=>w.heap.size<=x)).trans (But.of_below HW2.out.2.2)).alloc (.cells #[.int .i64 8,.int .i64 (seq:Int)] 204)).of_grown HG4.out (fun x e _=>by have:=z1.out;cases e;show w.heap.size<=w1.heap.size+1;omega)).below (Nat.le_refl _) (fun k hk q=>by omega)) HO4.out) ?_;rintro e w7 ⟨g7,rfl,q7⟩;have FIN:=hid q7;clear q7;dsimp only))
 all_goals
  clear k0 k1 k2 k0a k1a HPK
  go_wp2
  go_ret
  exact⟨g7,rfl,FIN.out⟩
open Go.RowKit
def blankZ (fr bl:Nat):List Int:=stampZ 1 0 (blankB fr bl)
def headZ (fr bl life seq:Nat):List Int:=stampZ 2 (life:Int) (headB fr bl seq)
theorem kind149(s:String)(hs:s=(((Tryz.prog.info? 238).bind fun i=>i.methods.find? fun r=>(r.func.map (fun x=>x.1)) == some 270).map (fun r=>r.name)).getD default)(v:Value)(w:World):Sem.run Tryz.prog (method 414 238 v s) w=.ok (270,v) w:=by
 subst hs
 kernel_rfl
theorem body149(s:String)(hs:s=(((Tryz.prog.info? 238).bind fun i=>i.methods.find? fun r=>(r.func.map (fun x=>x.1)) == some 269).map (fun r=>r.name)).getD default)(v:Value)(w:World):Sem.run Tryz.prog (method 414 238 v s) w=.ok (269,v) w:=by
 subst hs
 kernel_rfl
theorem kind143(s:String)(hs:s=(((Tryz.prog.info? 233).bind fun i=>i.methods.find? fun r=>(r.func.map (fun x=>x.1)) == some 267).map (fun r=>r.name)).getD default)(v:Value)(w:World):Sem.run Tryz.prog (method 414 233 v s) w=.ok (267,v) w:=by
 subst hs
 kernel_rfl
theorem body143(s:String)(hs:s=(((Tryz.prog.info? 233).bind fun i=>i.methods.find? fun r=>(r.func.map (fun x=>x.1)) == some 266).map (fun r=>r.name)).getD default)(v:Value)(w:World):Sem.run Tryz.prog (method 414 233 v s) w=.ok (266,v) w:=by
 subst hs
 kernel_rfl
theorem kind145(s:String)(hs:s=(((Tryz.prog.info? 197).bind fun i=>i.methods.find? fun r=>(r.func.map (fun x=>x.1)) == some 263).map (fun r=>r.name)).getD default)(v:Value)(w:World):Sem.run Tryz.prog (method 414 197 v s) w=.ok (263,v) w:=by
 subst hs
 kernel_rfl
theorem body145(s:String)(hs:s=(((Tryz.prog.info? 197).bind fun i=>i.methods.find? fun r=>(r.func.map (fun x=>x.1)) == some 262).map (fun r=>r.name)).getD default)(v:Value)(w:World):Sem.run Tryz.prog (method 414 197 v s) w=.ok (262,v) w:=by
 subst hs
 kernel_rfl
theorem kind146(s:String)(hs:s=(((Tryz.prog.info? 198).bind fun i=>i.methods.find? fun r=>(r.func.map (fun x=>x.1)) == some 265).map (fun r=>r.name)).getD default)(v:Value)(w:World):Sem.run Tryz.prog (method 414 198 v s) w=.ok (265,v) w:=by
 subst hs
 kernel_rfl
theorem body146(s:String)(hs:s=(((Tryz.prog.info? 198).bind fun i=>i.methods.find? fun r=>(r.func.map (fun x=>x.1)) == some 264).map (fun r=>r.name)).getD default)(v:Value)(w:World):Sem.run Tryz.prog (method 414 198 v s) w=.ok (264,v) w:=by
 subst hs
 kernel_rfl
theorem kindBlank_any(a b:Int)(w:World):Calls Tryz.prog 270 #[.agg #[.int .i64 a,.int .i64 b]] w fun e w'=>e=.returned (.int .i64 1)/\Below w.heap.size w w':=by
 go_enter Tryz.func270,Tryz.ntmps270
 go_wp2
 go_ret
 exact⟨rfl,(Below.refl _ _).alloc (Nat.le_refl _) _⟩
theorem kindHead_any(a b c:Int)(w:World):Calls Tryz.prog 267 #[.agg #[.int .i64 a,.int .i64 b,.int .i64 c]] w fun e w'=>e=.returned (.int .i64 2)/\Below w.heap.size w w':=by
 go_enter Tryz.func267,Tryz.ntmps267
 go_wp2
 go_ret
 exact⟨rfl,(Below.refl _ _).alloc (Nat.le_refl _) _⟩
theorem kindPiece_any(a:Option Addr)(n c:Nat)(w:World):Calls Tryz.prog 263 #[.slice a n c] w fun e w'=>e=.returned (.int .i64 3)/\w'=w:=by
 go_enter Tryz.func263,Tryz.ntmps263
 go_wp2
 go_ret
 exact⟨rfl,rfl⟩
theorem kindLast_any(a:Option Addr)(n c:Nat)(w:World):Calls Tryz.prog 265 #[.slice a n c] w fun e w'=>e=.returned (.int .i64 4)/\w'=w:=by
 go_enter Tryz.func265,Tryz.ntmps265
 go_wp2
 go_ret
 exact⟨rfl,rfl⟩
theorem bodyPiece_any(a:Option Addr)(n c:Nat)(w:World):Calls Tryz.prog 262 #[.slice a n c] w fun e w'=>e=.returned (.slice a n c)/\w'=w:=by
 go_enter Tryz.func262,Tryz.ntmps262
 go_wp2
 go_ret
 exact⟨rfl,rfl⟩
theorem bodyLast_any(a:Option Addr)(n c:Nat)(w:World):Calls Tryz.prog 264 #[.slice a n c] w fun e w'=>e=.returned (.slice a n c)/\w'=w:=by
 go_enter Tryz.func264,Tryz.ntmps264
 go_wp2
 go_ret
 exact⟨rfl,rfl⟩
theorem stamped_blank{fr:Nat}(h1:fr<=524288)(h2:bl<=524288)(w:World):Calls Tryz.prog 167 #[.iface 238 (.agg #[.int .i64 (fr:Int),.int .i64 (bl:Int)]),.int .i64 0] w fun e w'=>∃g,e=.returned (.tuple #[.slice (some ⟨g,0,none⟩) 512 512,.int .i64 0])/\w.heap.size<=g/\Blk .u8 5 w' g (stampZ 1 0 (blankB fr bl))/\Below w.heap.size w w':=by
 have HK:Hid (∀w,Calls Tryz.prog 270 #[(.agg #[.int .i64 (fr:Int),.int .i64 (bl:Int)])] w fun e w'=>e=.returned (.int .i64 1)/\Below w.heap.size w w'):=fun w=>kindBlank_any _ _ w
 have HB:Hid (∀w1,Below w.heap.size w w1->Calls Tryz.prog 269 #[(.agg #[.int .i64 (fr:Int),.int .i64 (bl:Int)])] w1 fun e w'=>∃a n c,e=.returned (.slice a n c)/\n<=497/\Rd w'.heap.size w' a n (blankB fr bl)/\Below w1.heap.size w1 w'):=fun w1 _=>Calls.mono (blankBody_any h1 h2 w1) (fun e w' q=>by obtain⟨g,rfl,h3,h4,h5⟩:=q;exact⟨_,6,6,rfl,by omega,by have:=Rd.of_blk h4 (isB_packZ _) h4.lt;rwa [length_blankB]at this,h5⟩)
 have HS:=hid (fun (w1:World) (a:Option Addr) (n c:Nat) (hn:n<=497) (hB:Rd w1.heap.size w1 a n (blankB fr bl))=>Stamp_ok 1 0 a n c (blankB fr bl) w1 (by omega) (by omega) (by omega) (by omega) hn hB)
 clear h1 h2
 go_enter Tryz.func167,Tryz.ntmps167
 go_wp2_with (rw[kind149];rotate_left;kernel_rfl)
 refine Calls.mono (HK.out w) ?_
 rintro e w1 ⟨rfl,b1⟩
 have B1:=hid b1
 have HB1:=hid (HB.out w1 b1)
 clear b1 HK HB
 go_wp2_with (rw[body149];rotate_left;kernel_rfl)
 refine Calls.mono HB1.out ?_
 rintro e w2 ⟨a2,n2,c2,rfl,hn,hr,b2⟩
 have HS2:=hid (HS.out w2 a2 n2 c2 hn hr)
 have B2:=hid (B1.out.trans (b2.mono B1.out.size))
 clear b2 HB1 hn hr B1 HS
 go_wp2_with fail
 refine Calls.mono HS2.out ?_
 rintro e w3 ⟨rfl,hb3,b3⟩
 have FIN:=hid (And.intro B2.out.size (And.intro hb3 (B2.out.trans (b3.mono B2.out.size))))
 clear hb3 b3 HS2 B2
 go_wp2
 go_ret2
 exact⟨_,rfl,FIN.out⟩
theorem stamped_head{fr seq life:Nat}(hlf:life<=1099511627776)(h1:fr<=524288)(h2:bl<=524288)(h3:seq<=1099511627776)(w:World):Calls Tryz.prog 167 #[.iface 233 (.agg #[.int .i64 (fr:Int),.int .i64 (bl:Int),.int .i64 (seq:Int)]),.int .i64 (life:Int)] w fun e w'=>∃g,e=.returned (.tuple #[.slice (some ⟨g,0,none⟩) 512 512,.int .i64 0])/\w.heap.size<=g/\Blk .u8 5 w' g (stampZ 2 (life:Int) (headB fr bl seq))/\Below w.heap.size w w':=by
 have HK:Hid (∀w,Calls Tryz.prog 267 #[(.agg #[.int .i64 (fr:Int),.int .i64 (bl:Int),.int .i64 (seq:Int)])] w fun e w'=>e=.returned (.int .i64 2)/\Below w.heap.size w w'):=fun w=>kindHead_any _ _ _ w
 have HB:Hid (∀w1,Below w.heap.size w w1->Calls Tryz.prog 266 #[(.agg #[.int .i64 (fr:Int),.int .i64 (bl:Int),.int .i64 (seq:Int)])] w1 fun e w'=>∃a n c,e=.returned (.slice a n c)/\n<=497/\Rd w'.heap.size w' a n (headB fr bl seq)/\Below w1.heap.size w1 w'):=fun w1 _=>Calls.mono (headBody_any h1 h2 h3 w1) (fun e w' q=>by obtain⟨g,rfl,h3,h4,h5⟩:=q;exact⟨_,14,14,rfl,by omega,by have:=Rd.of_blk h4 (isB_packZ _) h4.lt;rwa [length_headB]at this,h5⟩)
 have HS:=hid (fun (w1:World) (a:Option Addr) (n c:Nat) (hn:n<=497) (hB:Rd w1.heap.size w1 a n (headB fr bl seq))=>Stamp_ok 2 (life:Int) a n c (headB fr bl seq) w1 (by omega) (by omega) (by omega) (by omega) hn hB)
 clear h1 h2 h3
 go_enter Tryz.func167,Tryz.ntmps167
 go_wp2_with (rw[kind143];rotate_left;kernel_rfl)
 refine Calls.mono (HK.out w) ?_
 rintro e w1 ⟨rfl,b1⟩
 have B1:=hid b1
 have HB1:=hid (HB.out w1 b1)
 clear b1 HK HB
 go_wp2_with (rw[body143];rotate_left;kernel_rfl)
 refine Calls.mono HB1.out ?_
 rintro e w2 ⟨a2,n2,c2,rfl,hn,hr,b2⟩
 have HS2:=hid (HS.out w2 a2 n2 c2 hn hr)
 have B2:=hid (B1.out.trans (b2.mono B1.out.size))
 clear b2 HB1 hn hr B1 HS
 go_wp2_with fail
 refine Calls.mono HS2.out ?_
 rintro e w3 ⟨rfl,hb3,b3⟩
 have FIN:=hid (And.intro B2.out.size (And.intro hb3 (B2.out.trans (b3.mono B2.out.size))))
 clear hb3 b3 HS2 B2
 go_wp2
 go_ret2
 exact⟨_,rfl,FIN.out⟩
theorem stamped_piece{life:Nat}(a:Option Addr)(n c:Nat)(zs:List Int)(hlf:life<=1099511627776)(hn:n<=497)(w:World)(hR:Rd w.heap.size w a n zs):Calls Tryz.prog 167 #[.iface 197 (.slice a n c),.int .i64 (life:Int)] w fun e w'=>∃g,e=.returned (.tuple #[.slice (some ⟨g,0,none⟩) 512 512,.int .i64 0])/\w.heap.size<=g/\Blk .u8 5 w' g (stampZ 3 (life:Int) zs)/\Below w.heap.size w w':=by
 have HK:Hid (∀w,Calls Tryz.prog 263 #[(.slice a n c)] w fun e w'=>e=.returned (.int .i64 3)/\Below w.heap.size w w'):=fun w=>Calls.mono (kindPiece_any a n c w) (fun e w' q=>by obtain⟨rfl,rfl⟩:=q;exact⟨rfl,Below.refl _ _⟩)
 have HB:Hid (∀w1,Below w.heap.size w w1->Calls Tryz.prog 262 #[(.slice a n c)] w1 fun e w'=>∃a n c,e=.returned (.slice a n c)/\n<=497/\Rd w'.heap.size w' a n zs/\Below w1.heap.size w1 w'):=fun w1 b1=>Calls.mono (bodyPiece_any a n c w1) (fun e w' q=>by obtain⟨rfl,rfl⟩:=q;exact⟨a,n,c,rfl,hn,(hR.below b1).mono b1.size,Below.refl _ _⟩)
 have HS:=hid (fun (w1:World) (a:Option Addr) (n c:Nat) (hn:n<=497) (hB:Rd w1.heap.size w1 a n zs)=>Stamp_ok 3 (life:Int) a n c zs w1 (by omega) (by omega) (by omega) (by omega) hn hB)
 clear hR hn
 go_enter Tryz.func167,Tryz.ntmps167
 go_wp2_with (rw[kind145];rotate_left;kernel_rfl)
 refine Calls.mono (HK.out w) ?_
 rintro e w1 ⟨rfl,b1⟩
 have B1:=hid b1
 have HB1:=hid (HB.out w1 b1)
 clear b1 HK HB
 go_wp2_with (rw[body145];rotate_left;kernel_rfl)
 refine Calls.mono HB1.out ?_
 rintro e w2 ⟨a2,n2,c2,rfl,hn,hr,b2⟩
 have HS2:=hid (HS.out w2 a2 n2 c2 hn hr)
 have B2:=hid (B1.out.trans (b2.mono B1.out.size))
 clear b2 HB1 hn hr B1 HS
 go_wp2_with fail
 refine Calls.mono HS2.out ?_
 rintro e w3 ⟨rfl,hb3,b3⟩
 have FIN:=hid (And.intro B2.out.size (And.intro hb3 (B2.out.trans (b3.mono B2.out.size))))
 clear hb3 b3 HS2 B2
 go_wp2
 go_ret2
 exact⟨_,rfl,FIN.out⟩
theorem stamped_last{life:Nat}(a:Option Addr)(n c:Nat)(zs:List Int)(hlf:life<=1099511627776)(hn:n<=497)(w:World)(hR:Rd w.heap.size w a n zs):Calls Tryz.prog 167 #[.iface 198 (.slice a n c),.int .i64 (life:Int)] w fun e w'=>∃g,e=.returned (.tuple #[.slice (some ⟨g,0,none⟩) 512 512,.int .i64 0])/\w.heap.size<=g/\Blk .u8 5 w' g (stampZ 4 (life:Int) zs)/\Below w.heap.size w w':=by
 have HK:Hid (∀w,Calls Tryz.prog 265 #[(.slice a n c)] w fun e w'=>e=.returned (.int .i64 4)/\Below w.heap.size w w'):=fun w=>Calls.mono (kindLast_any a n c w) (fun e w' q=>by obtain⟨rfl,rfl⟩:=q;exact⟨rfl,Below.refl _ _⟩)
 have HB:Hid (∀w1,Below w.heap.size w w1->Calls Tryz.prog 264 #[(.slice a n c)] w1 fun e w'=>∃a n c,e=.returned (.slice a n c)/\n<=497/\Rd w'.heap.size w' a n zs/\Below w1.heap.size w1 w'):=fun w1 b1=>Calls.mono (bodyLast_any a n c w1) (fun e w' q=>by obtain⟨rfl,rfl⟩:=q;exact⟨a,n,c,rfl,hn,(hR.below b1).mono b1.size,Below.refl _ _⟩)
 have HS:=hid (fun (w1:World) (a:Option Addr) (n c:Nat) (hn:n<=497) (hB:Rd w1.heap.size w1 a n zs)=>Stamp_ok 4 (life:Int) a n c zs w1 (by omega) (by omega) (by omega) (by omega) hn hB)
 clear hR hn
 go_enter Tryz.func167,Tryz.ntmps167
 go_wp2_with (rw[kind146];rotate_left;kernel_rfl)
 refine Calls.mono (HK.out w) ?_
 rintro e w1 ⟨rfl,b1⟩
 have B1:=hid b1
 have HB1:=hid (HB.out w1 b1)
 clear b1 HK HB
 go_wp2_with (rw[body146];rotate_left;kernel_rfl)
 refine Calls.mono HB1.out ?_
 rintro e w2 ⟨a2,n2,c2,rfl,hn,hr,b2⟩
 have HS2:=hid (HS.out w2 a2 n2 c2 hn hr)
 have B2:=hid (B1.out.trans (b2.mono B1.out.size))
 clear b2 HB1 hn hr B1 HS
 go_wp2_with fail
 refine Calls.mono HS2.out ?_
 rintro e w3 ⟨rfl,hb3,b3⟩
 have FIN:=hid (And.intro B2.out.size (And.intro hb3 (B2.out.trans (b3.mono B2.out.size))))
 clear hb3 b3 HS2 B2
 go_wp2
 go_ret2
 exact⟨_,rfl,FIN.out⟩
end Go.Proofs.YtlefjidbpjkhlaaGreat
