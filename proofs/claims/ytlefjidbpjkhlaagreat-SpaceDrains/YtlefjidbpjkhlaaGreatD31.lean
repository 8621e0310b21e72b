import Derived.Test.YtlefjidbpjkhlaaGreatD30
import Derived.Test.YtlefjidbpjkhlaaGreatD19
import Derived.Test.YtlefjidbpjkhlaaGreatD11
set_option maxRecDepth 100000
set_option maxHeartbeats 16000000
namespace Go.Proofs.YtlefjidbpjkhlaaGreat
variable {zs:List Int}
variable {B K N f j m n r st t tk tr x:Nat}
variable {W W' w:World}
variable {X Y:Nat->Prop}
variable {P:Program}
variable {α:Type}
variable {Q:Exit->Act->World->Prop}
variable {lf:Int}
variable {PO:Ending->World->Prop}
variable {F:Cf}
variable {C:Nat->List Int}
variable {L:Nat->Option (List Int)}
variable {Ms:List (Nat->Option (List Int))}
open Go.RowKit
theorem or_i64{n z:Int}(h0:0<=n)(h1:n<1099511627776)(z0:0<=z)(z1:z<256):bits BinOp.or IntKind.i64 (n * 256) z=z+256 * n:=by
 obtain⟨a,rfl⟩:=Int.eq_ofNat_of_zero_le h0
 obtain⟨y,rfl⟩:=Int.eq_ofNat_of_zero_le z0
 show IntKind.i64.wrap ((BitVec.ofInt 64 ((a:Int) * 256) ||| BitVec.ofInt 64 (y:Int)).toNat:Int)=_
 rw[BitVec.toNat_or,BitVec.toNat_ofInt,BitVec.toNat_ofInt,show (((a:Int) * 256) % ((2 ^ 64:Nat):Int)).toNat=a * 256 by omega,show ((y:Int) % ((2 ^ 64:Nat):Int)).toNat=y by omega,Pl.lor_add a y (by omega),IntKind.wrap_i64]
 omega
theorem num_lt5(hb:Pl.isB zs)(j:Nat)(hn:zs.length<=6):Pl.num (zs.drop (j+1))<1099511627776:=by
 have h:=Pl.num_lt (Pl.isB_drop hb (j+1))
 have hl:(zs.drop (j+1)).length<=5:=by simp;omega
 have h2:(256:Int) ^ (zs.drop (j+1)).length<=1099511627776:=by
  generalize (zs.drop (j+1)).length=n at hl
  rcases (show n=0\/n=1\/n=2\/n=3\/n=4\/n=5 from by omega) with rfl | rfl | rfl | rfl | rfl | rfl <;> decide
 omega
theorem snumber_step(hb:Pl.isB zs)(hj:j<zs.length)(hn:zs.length<=6) :
  bits BinOp.or IntKind.i64 (Pl.num (List.drop (j+1) zs) * 256) (zs[j]?.getD 0)=Pl.num (zs.drop j):=by
 rw[Pl.num_step hj]
 have hz:=Pl.isB_getD hb j
 exact or_i64 (Pl.num_nonneg (Pl.isB_drop hb _)) (num_lt5 hb j hn) hz.1 hz.2
theorem snumber_any (b off n cap:Nat) (zs:List Int) (w:World) (hn:n<=6) (hz:zs.length=n) (hb:Pl.isB zs)
  (hc:∀t,t<n->w.cell? ⟨b,off+t,none⟩=some (.int .u8 (zs.getD t 0))) :
  Calls Tryz.prog 185 #[.slice (some ⟨b,off,none⟩) n cap] w fun e w'=>e=.returned (.int .i64 (Pl.num zs))/\w'=w:=by
 go_enter Tryz.func185,Tryz.ntmps185
 go_wp2
 go_loop [3,4] (fun s i=>∃k:Nat,k<=n/\i=.int .i64 ((k:Int)-1)/\s=.int .i64 (Pl.num (zs.drop k))) (fun _ i=>(intOf i+1).toNat)
 case atStart=>exact⟨n,Nat.le_refl _,rfl,by rw[List.drop_of_length_le (by omega)];rfl⟩
 case round=>
  obtain⟨k,hk,rfl,rfl⟩:=hrel
  by_cases h0:k=0
  ·subst h0
   go_wp2
   go_ret
   exact⟨by simp,rfl⟩
  ·obtain⟨j,rfl⟩:∃j,k=j+1:=⟨k-1,by omega⟩
   have hcj:=hc j (by omega)
   have hz0:=Pl.isB_getD hb j
   have hn0:=Pl.num_nonneg (Pl.isB_drop hb (j+1))
   have hn1:=num_lt5 hb j (by omega)
   have hst:=snumber_step hb (j:=j) (by omega) (by omega)
   go_wp2
   go_round
   case rel=>exact⟨j,by omega,rfl,by rw[<- hst]⟩
   case measure=>simp[intOf]
theorem sentry_any(i:Nat)(hi:i<=1000)(w:World):Calls Tryz.prog 186 #[.int .i64 (i:Int)] w fun e w'=>e=.returned (.int .i64 ((32+8 * i:Nat):Int))/\w'=w:=by
 rw[show (((32+8 * i:Nat)):Int)=32+(i:Int) * 8 by omega]
 go_enter Tryz.func186,Tryz.ntmps186
 go_wp2
 go_ret
 exact⟨rfl,rfl⟩
theorem groupOf_any(b:Nat)(hb:1<=b)(h2:b<=262144)(w:World):Calls Tryz.prog 89 #[.int .i64 (b:Int)] w fun e w'=>e=.returned (.int .i64 (((b-1) / 480:Nat):Int))/\w'=w:=by
 have e1:((b:Int)-1) / 480=(((b-1) / 480:Nat):Int):=by omega
 rw[<- e1]
 clear e1
 go_enter Tryz.func89,Tryz.ntmps89
 go_wp2
 go_ret
 exact⟨rfl,rfl⟩
theorem slotOf_any(b:Nat)(hb:1<=b)(h2:b<=262144)(w:World):Calls Tryz.prog 90 #[.int .i64 (b:Int)] w fun e w'=>e=.returned (.int .i64 (((b-1) % 480:Nat):Int))/\w'=w:=by
 have e1:((b:Int)-1) % 480=(((b-1) % 480:Nat):Int):=by omega
 rw[<- e1]
 clear e1
 go_enter Tryz.func90,Tryz.ntmps90
 go_wp2
 go_ret
 exact⟨rfl,rfl⟩
theorem blockOf_any(g s:Nat)(hg:g<=1000)(hs:s<=1000)(w:World):Calls Tryz.prog 188 #[.int .i64 (g:Int),.int .i64 (s:Int)] w fun e w'=>e=.returned (.int .i64 ((480 * g+s+1:Nat):Int))/\w'=w:=by
 rw[show (((480 * g+s+1:Nat)):Int)=(g:Int) * 480+(s:Int)+1 by omega]
 go_enter Tryz.func188,Tryz.ntmps188
 go_wp2
 go_ret
 exact⟨rfl,rfl⟩
theorem isTaken_any(c:Int)(w:World):Calls Tryz.prog 99 #[.int .i64 c] w fun e w'=>e=.returned (.int .i64 (min c 1))/\w'=w:=by
 go_enter Tryz.func99,Tryz.ntmps99
 go_wp2
 go_ret
 exact⟨rfl,rfl⟩
theorem lifeBehind_any(l:Nat)(hl:l<=1099511627775)(w:World):Calls Tryz.prog 189 #[.int .i64 (l:Int)] w fun e w'=>e=.returned (.int .i64 ((l % 1099511627775+1:Nat):Int))/\w'=w:=by
 have e1:(l:Int).tmod 1099511627775=((l % 1099511627775:Nat):Int):=by rw[Int.tmod_eq_emod_of_nonneg (by omega)];omega
 have e2:((l % 1099511627775:Nat):Int)<1099511627775:=by omega
 generalize (l % 1099511627775:Nat)=m at *
 rw[show (((m+1:Nat)):Int)=(m:Int)+1 by omega]
 go_enter Tryz.func189,Tryz.ntmps189
 go_wp2
 go_ret
 exact⟨rfl,rfl⟩
theorem countsPage_any(f:Int)(r k:Nat)(hr:r<=262144)(hk:k<=1000)(w:World):Calls Tryz.prog 88 #[.agg #[.int .i64 f,.int .i64 (r:Int)],.int .i64 (k:Int)] w fun e w'=>e=.returned (.int .i64 ((indexN r+k:Nat):Int))/\Below w.heap.size w w':=by
 have hi:=indexN_le hr
 have HI:=hid (fun w=>index_any f r hr w)
 generalize indexN r=iN at *
 obtain⟨w0,hw0⟩:∃w0,w0=w.alloc (.cells #[.int .i64 f,.int .i64 (r:Int)] 92):=⟨_,rfl⟩
 have b0:Below w.heap.size w w0:=by rw[hw0];exact (Below.refl _ _).alloc (Nat.le_refl _) _
 have B0:=hid b0
 have HW:=hid hw0
 clear b0 hw0
 rw[show (((iN+k:Nat)):Int)=(iN:Int)+(k:Int) by omega]
 go_enter Tryz.func88,Tryz.ntmps88
 go_wp2_with fail
 rw[<- HW.out]
 refine Calls.mono (HI.out w0) ?_
 rintro e w1 ⟨rfl,b1⟩
 have B1:Hid (Below w.heap.size w w1):=B0.out.trans (b1.mono B0.out.size)
 clear b1 HI HW B0
 go_wp2
 go_ret
 exact⟨rfl,B1.out⟩
theorem shas_any(x t:Nat)(sz lf b:Int)(w:World):Calls Tryz.prog 86 #[.agg #[.pointer (some ⟨x,0,none⟩),.int .i64 sz,.int .i64 lf,.pointer (some ⟨t,0,none⟩)],.int .i64 b] w fun e w'=>e=.returned (.bool (decide (1<=b/\b<=sz)))/\Below w.heap.size w w':=by
 have B:Hid (Below w.heap.size w (w.alloc (.cells #[.pointer (some ⟨x,0,none⟩),.int .i64 sz,.int .i64 lf,.pointer (some ⟨t,0,none⟩)] 103))):=(Below.refl _ _).alloc (Nat.le_refl _) _
 by_cases h1:1<=b
 ·have e1:decide (1<=b/\b<=sz)=decide (b<=sz):=decide_eq_decide.2 ⟨fun q=>q.2,fun q=>⟨h1,q⟩⟩
  rw[e1]
  clear e1
  go_enter Tryz.func86,Tryz.ntmps86
  go_wp2
  go_ret
  exact⟨rfl,B.out⟩
 ·have e1:decide (1<=b/\b<=sz)=false:=decide_eq_false (fun q=>h1 q.1)
  rw[e1]
  clear e1
  go_enter Tryz.func86,Tryz.ntmps86
  go_wp2
  go_ret
  exact⟨rfl,B.out⟩
open Go.RowKit
def tknZ (zs:List Int) (i:Nat):Int:=Pl.num ((zs.drop (32+8 * i)).take 2)
def trnZ (zs:List Int) (i:Nat):Int:=Pl.num ((zs.drop (34+8 * i)).take 6)
theorem takenAt_any{G cap:Nat}(hO:Own w G 512 cap zs)(hb:Pl.isB zs)(i:Nat)(hi:i<=59) :
  Calls Tryz.prog 147 #[.slice (some ⟨G,0,none⟩) 512 cap,.int .i64 (i:Int)] w fun e w'=>e=.returned (.int .i64 (tknZ zs i))/\w'=w:=by
 have hcap:=own_cap hO
 have hlen:=hO.len
 obtain⟨o,ho⟩:∃o,o=32+8 * i:=⟨_,rfl⟩
 have HN:Hid (Calls Tryz.prog 185 #[.slice (some ⟨G,o+0,none⟩) 2 (cap-(o+0))] w fun e w'=>e=.returned (.int .i64 (tknZ zs i))/\w'=w):=by
  unfold tknZ
  rw[show 32+8 * i=o+0 by omega]
  refine snumber_any G (o+0) 2 _ ((zs.drop (o+0)).take 2) w (by omega) (by rw[List.length_take,List.length_drop];omega) (fun z hz=>hb z (List.mem_of_mem_drop (List.mem_of_mem_take hz))) (fun t ht=>?_)
  rw[hO.cell (o+0+t) (by omega)]
  congr 2
  simp only[List.getD_eq_getElem?_getD]
  rw[List.getElem?_take_of_lt ht,List.getElem?_drop]
 have HE:Hid (∀w:World,Calls Tryz.prog 186 #[.int .i64 (i:Int)] w fun e w'=>e=.returned (.int .i64 (o:Int))/\w'=w):=fun w=>by rw[ho];exact sentry_any i (by omega) w
 have h1:(o:Int)<=504:=by omega
 have h2:(512:Int)<=(cap:Int):=by omega
 have h3:¬cap=o+0:=by omega
 have h4:o<=504:=by omega
 clear hO hb hlen ho hi
 go_enter Tryz.func147,Tryz.ntmps147
 go_wp2_with fail
 refine Calls.mono (HE.out w) ?_
 rintro e w9 ⟨rfl,hw9⟩
 rw[hw9]
 clear hw9 HE
 go_wp2_with fail
 refine Calls.mono HN.out ?_
 rintro e w9 ⟨rfl,hw9⟩
 rw[hw9]
 clear hw9 HN
 go_wp2
 go_ret
 exact⟨rfl,rfl⟩
theorem turnsAt_any{G cap:Nat}(hO:Own w G 512 cap zs)(hb:Pl.isB zs)(i:Nat)(hi:i<=59) :
  Calls Tryz.prog 148 #[.slice (some ⟨G,0,none⟩) 512 cap,.int .i64 (i:Int)] w fun e w'=>e=.returned (.int .i64 (trnZ zs i))/\w'=w:=by
 have hcap:=own_cap hO
 have hlen:=hO.len
 obtain⟨o,ho⟩:∃o,o=32+8 * i:=⟨_,rfl⟩
 have HN:Hid (Calls Tryz.prog 185 #[.slice (some ⟨G,o+2,none⟩) 6 (cap-(o+2))] w fun e w'=>e=.returned (.int .i64 (trnZ zs i))/\w'=w):=by
  unfold trnZ
  rw[show 34+8 * i=o+2 by omega]
  refine snumber_any G (o+2) 6 _ ((zs.drop (o+2)).take 6) w (by omega) (by rw[List.length_take,List.length_drop];omega) (fun z hz=>hb z (List.mem_of_mem_drop (List.mem_of_mem_take hz))) (fun t ht=>?_)
  rw[hO.cell (o+2+t) (by omega)]
  congr 2
  simp only[List.getD_eq_getElem?_getD]
  rw[List.getElem?_take_of_lt ht,List.getElem?_drop]
 have HE:Hid (∀w:World,Calls Tryz.prog 186 #[.int .i64 (i:Int)] w fun e w'=>e=.returned (.int .i64 (o:Int))/\w'=w):=fun w=>by rw[ho];exact sentry_any i (by omega) w
 have h1:(o:Int)<=504:=by omega
 have h2:(512:Int)<=(cap:Int):=by omega
 have h3:¬cap=o+2:=by omega
 have h4:o<=504:=by omega
 clear hO hb hlen ho hi
 go_enter Tryz.func148,Tryz.ntmps148
 go_wp2_with fail
 refine Calls.mono (HE.out w) ?_
 rintro e w9 ⟨rfl,hw9⟩
 rw[hw9]
 clear hw9 HE
 go_wp2_with fail
 refine Calls.mono HN.out ?_
 rintro e w9 ⟨rfl,hw9⟩
 rw[hw9]
 clear hw9 HN
 go_wp2
 go_ret
 exact⟨rfl,rfl⟩
theorem okF_ent(h1:tk<=65535)(h2:tr<=281474976710655):okF [(2,(tk:Int)),(6,(tr:Int))]:=by
 intro f hf
 simp at hf
 rcases hf with rfl | rfl
 ·unfold chk wfB;simp;omega
 ·unfold chk wfB;simp;omega
def entZ (tk tr:Nat):List Int:=packZ [(2,(tk:Int)),(6,(tr:Int))]
theorem length_entZ(tk tr:Nat):(entZ tk tr).length=8:=by simp[entZ,packZ,Pl.dig]
theorem isB_entZ(tk tr:Nat):Pl.isB (entZ tk tr):=isB_packZ _
theorem putEntry_any{G cap:Nat}(hO:Own w G 512 cap zs)(i tk tr:Nat)(hi:i<=59)(h1:tk<=65535)(h2:tr<=281474976710655) :
  Calls Tryz.prog 150 #[.slice (some ⟨G,0,none⟩) 512 cap,.int .i64 (i:Int),.int .i64 (tk:Int),.int .i64 (tr:Int)] w fun e w'=>e=.returned (.bool true)/\Own w' G 512 cap (splice zs (32+8 * i) (entZ tk tr))/\But (fun k=>k=G) w w':=by
 obtain⟨PO,hPO⟩:∃PO:Ending->World->Prop,PO=fun e w'=>e=.returned (.bool true)/\Own w' G 512 cap (splice zs (32+8 * i) (entZ tk tr))/\But (fun k=>k=G) w w':=⟨_,rfl⟩
 rw[<- hPO]
 have hcap:=own_cap hO
 have hGl:=hO.lt
 obtain⟨o,ho⟩:∃o,o=32+8 * i:=⟨_,rfl⟩
 obtain⟨w0,hw0⟩:∃w0,w0=w.alloc (.cells #[.int .i64 2,.int .i64 (tk:Int),.int .i64 6,.int .i64 (tr:Int)] 204):=⟨_,rfl⟩
 have z0:w0.heap.size=w.heap.size+1:=by rw[hw0];simp
 have b0:Below w.heap.size w w0:=by rw[hw0];exact (Below.refl _ _).alloc (Nat.le_refl _) _
 have HP:Hid (Calls Tryz.prog 181 #[.slice (some ⟨w.heap.size,0,none⟩) 2 2] w0 fun e w2=>∃g,e=.returned (.tuple #[.slice (some ⟨g,0,none⟩) 8 8,.int .i64 0])/\∃w3,(Builtin.copy_ #[65,65] 3 #[.slice (some ⟨G,o,none⟩) (512-o) (cap-o),.slice (some ⟨g,0,none⟩) 8 8]).run Tryz.prog w2=.ok (.int .i64 8) w3/\PO (.returned (.bool true)) w3):=by
  have hc:=fun i v h=>cell_new (w:=w) (vs:=#[.int .i64 2,.int .i64 (tk:Int),.int .i64 6,.int .i64 (tr:Int)]) (t:=204) rfl i v h
  refine Calls.mono (Pack_ok _ 2 2 [(2,(tk:Int)),(6,(tr:Int))] w0 (by omega) ⟨rfl,fun f hf=>?_,.inr ⟨w.heap.size,0,rfl,by omega,fun t ht=>?_⟩⟩ (okF_ent h1 h2)) ?_
  ·simp at hf
   rcases hf with rfl | rfl <;> (simp only;omega)
  ·rw[hw0]
   rcases t with _ | _ | t
   ·exact⟨hc 0 _ rfl,hc 1 _ rfl⟩
   ·exact⟨hc 2 _ rfl,hc 3 _ rfl⟩
   ·omega
  ·rintro e w2 ⟨g,rfl,hg,hB,b2⟩
   have hl:(packZ [(2,(tk:Int)),(6,(tr:Int))]).length=8:=length_entZ tk tr
   rw[hl]
   have b02:Below w.heap.size w w2:=b0.trans (b2.mono (by omega))
   have hO2:Own w2 G 512 cap zs:=hO.keep (b02.block G hGl)
   obtain⟨w3,hr,hO3,bt3⟩:=copy_own (ty:=3) (o:=o) (dLen:=512-o) (dCap:=cap-o) (ad:=⟨g,0,none⟩) (m:=8) (sCap:=8) (cs:=entZ tk tr) hO2 (length_entZ tk tr) (by omega) (by omega) (fun j u hu=>World.news_of_block (w:=w2) (B:=g) hB j u (by simpa [entZ] using hu))
   refine⟨g,rfl,w3,hr,?_⟩
   rw[hPO]
   refine⟨rfl,?_,(But.of_below b02).comp bt3 (fun _ _ q=>q)⟩
   rw[<- ho]
   exact hO3
 have HE:Hid (∀w:World,Calls Tryz.prog 186 #[.int .i64 (i:Int)] w fun e w'=>e=.returned (.int .i64 (o:Int))/\w'=w):=fun w=>by rw[ho];exact sentry_any i (by omega) w
 have g1:(o:Int)<=504:=by omega
 have g2:(512:Int)<=(cap:Int):=by omega
 have g3:¬cap=o:=by omega
 have g4:o<=504:=by omega
 have HW:=hid hw0
 clear hO ho hi hPO hw0 b0 z0 hGl h1 h2
 go_enter Tryz.func150,Tryz.ntmps150
 go_wp2_with fail
 rw[<- HW.out]
 refine Calls.mono HP.out ?_
 rintro e w2 ⟨g,rfl,w3,hcp,hF⟩
 have FIN:=hid hF
 clear hF HP HW
 go_wp2_with fail
 refine Calls.mono (HE.out w2) ?_
 rintro e w9 ⟨rfl,hw9⟩
 rw[hw9]
 clear hw9 HE
 go_wp2
 exact FIN.out
open Go.RowKit
structure Dl2 (B:Nat) (W W':World):Prop where
 d:W'.heap[B]?=W.heap[B]?
 l:W'.heap[B+1]?=W.heap[B+1]?
theorem Dl2.refl(B:Nat)(W:World):Dl2 B W W:=⟨rfl,rfl⟩
theorem Dl2.trans{X Y Z:World}(h:Dl2 B X Y)(k:Dl2 B Y Z):Dl2 B X Z:=⟨k.d.trans h.d,k.l.trans h.l⟩
theorem Dl2.of_but(h:But X W W')(hl:B+1<W.heap.size)(h1:¬X B)(h2:¬X (B+1)):Dl2 B W W':=⟨h.block B (by omega) h1,h.block (B+1) hl h2⟩
theorem Dl2.of_below(h:Below n W W')(hl:B+1<n):Dl2 B W W':=⟨h.block B (by omega),h.block (B+1) hl⟩
theorem but_put(W:World)(r:Nat)(o:Obj):But (fun k=>k=r) W (W.putObj r o):=⟨rfl,rfl,rfl,by simp,fun k _ hk=>World.putObj_heap_other hk⟩
def rfPost {α:Type} (B:Nat) (I:List α->World->Prop) (Ix:Code->List α->World->Prop) (xs:List α) (W:World):Exit->Act->World->Prop
 | .normal,_,W'=>Dl2 B W W'/\I xs W'
 | .ret,_,W'=>Dl2 B W W'/\Ix .ret xs W'
 | .exit id,_,W'=>Dl2 B W W'/\Ix (.exit id) xs W'
 | .goto t,_,W'=>Dl2 B W W'/\Ix (.goto t) xs W'
 | .panic _,_,_=>False
 | .outgrown,_,_=>False
def RfY {α:Type} (F:Fence) (m:Nat) (P:Program) (B N:Nat) (encs:α->Array Value) (I:List α->World->Prop) (Ix:Code->List α->World->Prop) (R:World->Prop) (Rx:Code->World->Prop):Prop :=
 ∀pre x A,I pre A->R A->pre.length<N->YieldAt F m P (B+1) (encs x) A fun e A'=>(e=.returned (.bool true)/\I (pre++[x]) A'/\R A')\/(e=.returned (.bool false)/\∃c,Ix c (pre++[x]) A'/\Rx c A')
def RfIt {α:Type} (F:Fence) (n:Nat) (P:Program) (gf:Nat) (lb:Array Value) (B N:Nat) (encs:α->Array Value) (S Sp:List α->Prop) (I:List α->World->Prop) (Ix:Code->List α->World->Prop) (w:World):Prop :=
 ∀(R:World->Prop) (Rx:Code->World->Prop) (W:World),(∀A A',R A->Dl2 B A A'->R A')->(∀c A A',Rx c A->Dl2 B A A'->Rx c A')->(∀A,R A->B+1<A.heap.size)->(∀c A,Rx c A->B+1<A.heap.size) ->
  RfY F (n-1) P B N encs I Ix R Rx->I [] W->R W->Below B w W ->
  CallsIn F n P gf (#[.func (.yield (B+1)) #[] #[]]++lb) W fun e W'=>(∃v,e=.returned v)/\((∃xs,S xs/\I xs W'/\R W')\/(∃pre c,Sp pre/\Ix c pre W'/\Rx c W'))
theorem rfLaw {F:Fence} {g:Operand} {ps:Array Tmp} {assign body:Code} {a:Act} 
  (hro:F.round=none) (h1:1<=n) {gf:Nat} {lb:Array Value} (hg:a.eval g=.func (.func gf) #[] lb) (hFg:F.fn gf) (eg:∀args w,(callFunc gf args).run P w=.ok (.enter gf args) w)
  {encs:α->Array Value} {S Sp:List α->Prop} (hps:∀x,(encs x).size=ps.size)
  (I:List α->World->Prop) (Ix:Code->List α->World->Prop) (hI:∀s W o,w.heap.size+1<W.heap.size->I s W->I s (W.putObj (w.heap.size+1) o)) (hIx:∀c s W o,w.heap.size+1<W.heap.size->Ix c s W->Ix c s (W.putObj (w.heap.size+1) o)) (h0:∀o1 o2,I [] ((w.alloc o1).alloc o2))
  (Ax:List α->α->Act->World->Prop) (hAx:∀pre x a' W o,w.heap.size+1<W.heap.size->Ax pre x a' W->Ax pre x a' (W.putObj (w.heap.size+1) o))
  (hit:RfIt F (n-1) P gf lb w.heap.size N encs S Sp I Ix w)
  (hassign:∀(l:Nat) (pre:List α) (x:α) (W:World) (K:Act->World->Prop),w.heap.size+1<W.heap.size->I pre W->pre.length<N->(∀a' W',Dl2 w.heap.size W W'->Ax pre x a' W'->K a' W') ->
   assign.wpIn (F.inRound l) (n-1-1) P (Exit.then K (fun _ _ _=>False)) { tmps:=(ps.zip (encs x)).foldl (fun t (p,v)=>t.setIfInBounds p v) a.tmps,defers:=[] } W)
  (hbody:∀(l:Nat) (pre:List α) (x:α) (a':Act) (W:World),w.heap.size+1<W.heap.size->Ax pre x a' W->pre.length<N->body.wpIn (F.inRound l) (n-1-1) P (rfPost w.heap.size I Ix (pre++[x]) W) a' W)
  (hdone:∀(D:Nat) (xs:List α) (W:World),w.heap.size=D->S xs->I xs W->W.heap[D]?=some (.deferred (some []))->Q .normal { a with defers:={ target:=.collected D,args:=#[] } :: a.defers } W)
  (hstop:∀(D:Nat) (c:Code) (pre:List α) (W:World),w.heap.size=D->Sp pre->Ix c pre W->W.heap[D]?=some (.deferred (some []))->c.wpIn F n P Q { a with defers:={ target:=.collected D,args:=#[] } :: a.defers } W) :
  (Code.rangeFunc g ps assign body).wpIn F n P Q a w:=by
 refine wpIn_rangeFunc fun fn hfn=>?_
 rw[hro]
 generalize hB:w.heap.size=B at *
 obtain⟨lp,hlp⟩:∃lp:LoopState->Option Code->Obj,lp=fun st pe=>.loop { state:=st,pending:=pe,fn,tmps:=a.tmps,params:=ps,assign,body,defers:=B }:=⟨_,rfl⟩
 obtain⟨R,hR⟩:∃R:World->Prop,R=fun A=>A.heap[B+1]?=some (lp .ready none)/\A.heap[B]?=some (.deferred (some [])):=⟨_,rfl⟩
 obtain⟨Rx,hRx⟩:∃Rx:Code->World->Prop,Rx=fun c A=>A.heap[B+1]?=some (lp .done (some c))/\A.heap[B]?=some (.deferred (some [])):=⟨_,rfl⟩
 obtain⟨W1,hW1⟩:∃W1,W1=(w.alloc (.deferred (some []))).alloc (lp .ready none):=⟨_,rfl⟩
 have hs1:W1.heap.size=B+2:=by rw[hW1];simp only[World.size_alloc];omega
 have hR1:R W1:=by
  rw[hR,hW1]
  refine⟨?_,?_⟩
  ·have:=World.alloc_heap_new (w.alloc (.deferred (some []))) (lp .ready none)
   rwa [World.size_alloc,hB]at this
  ·rw[<- hB]
   exact (Below.heap_alloc _ _ _ (by simp)).trans (World.alloc_heap_new w _)
 have hI1:I [] W1:=by rw[hW1];exact h0 _ _
 have hb1:Below B w W1:=by
  rw[hW1,<- hB]
  exact ((Below.refl _ w).alloc (Nat.le_refl _) _).alloc (by simp) _
 have hRl:∀A,R A->B+1<A.heap.size:=fun A q=>by
  rw[hR]at q
  exact (Array.getElem?_eq_some_iff.1 q.1).1
 have hRxl:∀c A,Rx c A->B+1<A.heap.size:=fun c A q=>by
  rw[hRx]at q
  exact (Array.getElem?_eq_some_iff.1 q.1).1
 refine⟨B+1,[{ target:=.collected B,args:=#[] }],W1,{ target:=.fn (.func gf) lb,args:=#[.func (.yield (B+1)) #[] #[]] },W1,gf,#[.func (.yield (B+1)) #[] #[]]++lb,W1,?_,?_,?_,?_,fun _=>h1,?_⟩
 ·rw[hW1,hlp,<- hB]
  exact run_enterLoop_outer _ _ _ _ _
 ·simp only[resolve,hg]
  simp[go_sem]
 ·intro f' hf'
  simp[Target.leads]at hf'
  subst hf'
  exact hFg
 ·simp[invoke,go_sem,eg]
 ·refine (hit R Rx W1 (fun A A' q t=>?_) (fun c A A' q t=>?_) hRl hRxl (fun pre x A hi hr hlen=>?_) hI1 hR1 hb1).mono ?_
  ·rw[hR]at q ⊢
   exact⟨t.l.trans q.1,t.d.trans q.2⟩
  ·rw[hRx]at q ⊢
   exact⟨t.l.trans q.1,t.d.trans q.2⟩
  ·have hlt:=hRl A hr
   rw[hR]at hr
   obtain⟨hl,hk⟩:=hr
   have hl':=hl
   rw[hlp]at hl'
   refine⟨fn,_,assign,body,run_yield (P:=P) (args:=encs x) hl' (hps x),roundIn_of_wpIn hfn (hassign _ pre x A _ hlt hi hlen fun a1 A1 t1 ax=>?_)⟩
   have hl1:A1.heap[B+1]?=some (lp .ready none):=t1.l.trans hl
   have hl1':=hl1
   rw[hlp]at hl1'
   have hlt1:=(Array.getElem?_eq_some_iff.1 hl1).1
   refine⟨_,run_beginRound hl1' rfl,?_⟩
   obtain⟨A2,hA2⟩:∃A2,A2=A1.putObj (B+1) (lp .busy none):=⟨_,rfl⟩
   have e2:A1.putObj (B+1) (.loop { state:=.busy,pending:=none,fn,tmps:=a.tmps,params:=ps,assign,body,defers:=B })=A2:=by rw[hA2,hlp]
   rw[e2]
   have hs2:A2.heap.size=A1.heap.size:=by rw[hA2];simp
   have hl2:A2.heap[B+1]?=some (lp .busy none):=by rw[hA2];exact World.putObj_heap_same hlt1
   have hk2:A2.heap[B]?=some (.deferred (some [])):=by
    rw[hA2]
    exact (World.putObj_heap_other (by omega)).trans (t1.d.trans hk)
   have ax2:Ax pre x a1 A2:=by rw[hA2];exact hAx pre x a1 _ _ hlt1 ax
   refine wpIn_mono (hbody _ pre x a1 A2 (by omega) ax2 hlen) ?_
   have fin:∀(jump:Option Code) (A3:World),Dl2 B A2 A3->∃A4,(Instr.endRound (B+1) jump).run P A3=.ok (.bool jump.isNone) A4/\A4=A3.putObj (B+1) (lp (if jump.isNone then .ready else .done) jump)/\A3.heap[B+1]?=some (lp .busy none)/\A4.heap[B+1]?=some (lp (if jump.isNone then .ready else .done) jump)/\A4.heap[B]?=some (.deferred (some [])):=fun jump A3 t3=>by
    have hl3:A3.heap[B+1]?=some (lp .busy none):=t3.l.trans hl2
    have hl3':=hl3
    rw[hlp]at hl3'
    refine⟨_,run_endRound (P:=P) jump hl3',?_,hl3,?_,?_⟩
    ·rw[hlp]
    ·rw[hlp]
     exact World.putObj_heap_same (Array.getElem?_eq_some_iff.1 hl3).1
    ·exact (World.putObj_heap_other (by omega)).trans (t3.d.trans hk2)
   rintro e a3 A3 hp
   cases e with
   | normal=>
    obtain⟨t3,hi3⟩:=hp
    obtain⟨A4,f1,f2,f3,f4,f5⟩:=fin none A3 t3
    refine⟨_,_,f1,.inl ⟨rfl,?_,?_⟩⟩
    ·rw[f2]
     exact hI _ _ _ (Array.getElem?_eq_some_iff.1 f3).1 hi3
    ·rw[hR]
     exact⟨f4,f5⟩
   | ret=>
    obtain⟨t3,hi3⟩:=hp
    obtain⟨A4,f1,f2,f3,f4,f5⟩:=fin (some .ret) A3 t3
    refine⟨_,_,f1,.inr ⟨rfl,.ret,?_,?_⟩⟩
    ·rw[f2]
     exact hIx _ _ _ _ (Array.getElem?_eq_some_iff.1 f3).1 hi3
    ·rw[hRx]
     exact⟨f4,f5⟩
   | exit id=>
    obtain⟨t3,hi3⟩:=hp
    obtain⟨A4,f1,f2,f3,f4,f5⟩:=fin (some (.exit id)) A3 t3
    refine⟨_,_,f1,.inr ⟨rfl,.exit id,?_,?_⟩⟩
    ·rw[f2]
     exact hIx _ _ _ _ (Array.getElem?_eq_some_iff.1 f3).1 hi3
    ·rw[hRx]
     exact⟨f4,f5⟩
   | goto t=>
    obtain⟨t3,hi3⟩:=hp
    obtain⟨A4,f1,f2,f3,f4,f5⟩:=fin (some (.goto t)) A3 t3
    refine⟨_,_,f1,.inr ⟨rfl,.goto t,?_,?_⟩⟩
    ·rw[f2]
     exact hIx _ _ _ _ (Array.getElem?_eq_some_iff.1 f3).1 hi3
    ·rw[hRx]
     exact⟨f4,f5⟩
   | panic ch=>exact hp.elim
   | outgrown=>exact hp.elim
  ·rintro e W2 ⟨⟨v,rfl⟩,(⟨xs,hS,hi,hr⟩ | ⟨pre,c,hSp,hi,hr⟩)⟩
   ·rw[hR]at hr
    have hl':=hr.1
    rw[hlp]at hl'
    refine⟨none,_,run_endLoop (P:=P) hl' (by simp),hdone B xs _ rfl hS (hI _ _ _ (Array.getElem?_eq_some_iff.1 hl').1 hi) ((World.putObj_heap_other (by omega)).trans hr.2)⟩
   ·rw[hRx]at hr
    have hl':=hr.1
    rw[hlp]at hl'
    refine⟨some c,_,run_endLoop (P:=P) hl' (by simp),hstop B c pre _ rfl hSp (hIx c _ _ _ (Array.getElem?_eq_some_iff.1 hl').1 hi) ((World.putObj_heap_other (by omega)).trans hr.2)⟩
open Go.RowKit Go.Deep
def BoC (w:World) (x f r st t m:Nat) (sz lf:Int) (b:Bool) (PO:Ending->World->Prop):Prop :=
 ∀w0,w0=((w.alloc (.cells #[.pointer (some ⟨x,0,none⟩),.int .i64 sz,.int .i64 lf,.pointer (some ⟨t,0,none⟩)] 103)).alloc (.cells #[.pointer (some ⟨st,0,none⟩),.bool b] 164)).drew->(w0.cell? ⟨w.heap.size,0,none⟩=some (.pointer (some ⟨x,0,none⟩))/\w0.cell? ⟨w.heap.size,3,none⟩=some (.pointer (some ⟨t,0,none⟩))/\w0.cell? ⟨x,0,none⟩=some (.int .i64 (f:Int))/\w0.cell? ⟨x,1,none⟩=some (.int .i64 (r:Int)))/\Calls Tryz.prog 87 #[.agg #[.int .i64 (f:Int),.int .i64 (r:Int)],.iface 101 (.agg #[.pointer (some ⟨t,0,none⟩)]),.int .i64 (m:Int)] w0 fun e w1=>∃g cp,e=.returned (.tuple #[.slice (some ⟨g,0,none⟩) 512 cp,.int .i64 0])/\(w1.cell? ⟨w.heap.size,0,none⟩=some (.pointer (some ⟨x,0,none⟩))/\w1.cell? ⟨w.heap.size,3,none⟩=some (.pointer (some ⟨t,0,none⟩))/\w1.cell? ⟨x,0,none⟩=some (.int .i64 (f:Int))/\w1.cell? ⟨x,1,none⟩=some (.int .i64 (r:Int))) /\
  ∀w2,w2=w1.drew->(w2.cell? ⟨w.heap.size,0,none⟩=some (.pointer (some ⟨x,0,none⟩))/\w2.cell? ⟨x,0,none⟩=some (.int .i64 (f:Int))/\w2.cell? ⟨x,1,none⟩=some (.int .i64 (r:Int))/\w2.cell? ⟨w.heap.size+1,0,none⟩=some (.pointer (some ⟨st,0,none⟩))/\w2.cell? ⟨w.heap.size+1,1,none⟩=some (.bool b))/\Calls Tryz.prog 87 #[.agg #[.int .i64 (f:Int),.int .i64 (r:Int)],.iface 164 (.agg #[.pointer (some ⟨st,0,none⟩),.bool b]),.int .i64 (m:Int)] w2 fun e w3=>∃g2 cp2,e=.returned (.tuple #[.slice (some ⟨g2,0,none⟩) 512 cp2,.int .i64 0])/\(w3.cell? ⟨w.heap.size,0,none⟩=some (.pointer (some ⟨x,0,none⟩))/\w3.cell? ⟨x,0,none⟩=some (.int .i64 (f:Int))/\w3.cell? ⟨x,1,none⟩=some (.int .i64 (r:Int))/\w3.cell? ⟨w.heap.size+1,0,none⟩=some (.pointer (some ⟨st,0,none⟩))/\w3.cell? ⟨w.heap.size+1,1,none⟩=some (.bool b))/\PO (.returned (.tuple #[.slice (some ⟨g,0,none⟩) 512 cp,.slice (some ⟨g2,0,none⟩) 512 cp2,.int .i64 0])) w3
theorem both_walk{sz:Int}{b:Bool}(H:BoC w x f r st t m sz lf b PO) :
  Calls Tryz.prog 146 #[.agg #[.pointer (some ⟨x,0,none⟩),.int .i64 sz,.int .i64 lf,.pointer (some ⟨t,0,none⟩)],.agg #[.pointer (some ⟨st,0,none⟩),.bool b],.int .i64 (m:Int)] w PO:=by
 obtain⟨w0,hw0⟩:∃w0,w0=((w.alloc (.cells #[.pointer (some ⟨x,0,none⟩),.int .i64 sz,.int .i64 lf,.pointer (some ⟨t,0,none⟩)] 103)).alloc (.cells #[.pointer (some ⟨st,0,none⟩),.bool b] 164)).drew:=⟨_,rfl⟩
 obtain⟨kS,h1⟩:=H w0 hw0
 have H1:=hid h1
 have HW:=hid hw0
 rw[hw0]at kS
 clear H h1 hw0
 go_enter Tryz.func146,Tryz.ntmps146
 go_wp2_with fail
 refine Gz (S:=fun w'=>w'.cell? ⟨w.heap.size,0,none⟩=some (.pointer (some ⟨x,0,none⟩))/\w'.cell? ⟨w.heap.size,3,none⟩=some (.pointer (some ⟨t,0,none⟩))/\w'.cell? ⟨x,0,none⟩=some (.int .i64 (f:Int))/\w'.cell? ⟨x,1,none⟩=some (.int .i64 (r:Int))) kS (fun hSS=>?_)
 refine Ti 0 rfl ?_
 refine Ti 1 rfl ?_
 refine Ti 2 rfl ?_
 refine Ti 3 rfl ?_
 try simp only[Act.put,zA,zB,zC]
 refine Ti 4 rfl ?_
 refine Ti 5 rfl ?_
 refine Ti 6 rfl ?_
 refine Ti 7 rfl ?_
 try simp only[Act.put,zA,zB,zC]
 refine Ti 8 rfl ?_
 try simp only[Act.put,zA,zB,zC]
 refine Ri 9 rfl (fun K9 hK9=>?_)
 go_simp
 go_at_call 87
 rw[<- HW.out]
 refine Calls.mono H1.out ?_
 rintro e w1 ⟨g,cp,rfl,hk1,h2⟩
 obtain⟨kT,h3⟩:=h2 _ rfl
 have H3:=hid h3
 clear h2 h3 H1 HW
 refine hK9.out _ _ hk1 (fun hSS=>?_)
 try simp only[Act.put,zA,zB,zC]
 refine Ti 10 rfl ?_
 refine Ti 11 rfl ?_
 refine Ti 12 rfl ?_
 refine Ti 13 rfl ?_
 try simp only[Act.put,zA,zB,zC]
 refine Ti 14 rfl ?_
 try simp only[Act.put,zA,zB,zC]
 refine Dn ?_
 clear hSS kS hk1
 go_wp2_with fail
 refine Gz (S:=fun w'=>w'.cell? ⟨w.heap.size,0,none⟩=some (.pointer (some ⟨x,0,none⟩))/\w'.cell? ⟨x,0,none⟩=some (.int .i64 (f:Int))/\w'.cell? ⟨x,1,none⟩=some (.int .i64 (r:Int))/\w'.cell? ⟨w.heap.size+1,0,none⟩=some (.pointer (some ⟨st,0,none⟩))/\w'.cell? ⟨w.heap.size+1,1,none⟩=some (.bool b)) kT (fun hSS=>?_)
 refine Ti 0 rfl ?_
 refine Ti 1 rfl ?_
 refine Ti 2 rfl ?_
 refine Ti 3 rfl ?_
 try simp only[Act.put,zA,zB,zC]
 refine Ti 4 rfl ?_
 refine Ti 5 rfl ?_
 refine Ti 6 rfl ?_
 refine Ti 7 rfl ?_
 try simp only[Act.put,zA,zB,zC]
 refine Ri 8 rfl (fun K9 hK9=>?_)
 go_simp
 go_at_call 87
 refine Calls.mono H3.out ?_
 rintro e w3 ⟨g2,cp2,rfl,hk3,hF⟩
 have FIN:=hid hF
 clear hF H3
 refine hK9.out _ _ hk3 (fun hSS=>?_)
 try simp only[Act.put,zA,zB,zC]
 refine Ti 9 rfl ?_
 try simp only[Act.put,zA,zB,zC]
 refine Ti 10 rfl ?_
 refine Ti 11 rfl ?_
 refine Ti 12 rfl ?_
 refine Ti 13 rfl ?_
 try simp only[Act.put,zA,zB,zC]
 refine Dn ?_
 clear hSS kT hk3
 go_wp2
 go_ret3
 exact FIN.out
theorem heap2(w:World)(a b:Obj):((w.alloc a).alloc b).heap[w.heap.size]?=some a/\((w.alloc a).alloc b).heap[w.heap.size+1]?=some b:=by
 show ((w.heap.push a).push b)[w.heap.size]?=some a/\((w.heap.push a).push b)[w.heap.size+1]?=some b
 simp only[Array.getElem?_push,Array.size_push]
 refine⟨?_,?_⟩
 ·rw[if_neg (by omega),if_pos trivial]
 ·rw[if_pos trivial]
def BoP (Y:Nat->Prop) (w:World) (z1 z2:List Int) (X:(Nat->Prop)->World->Prop) (e:Ending) (w':World):Prop :=
 ∃g cp g2 cp2 Y',e=.returned (.tuple #[.slice (some ⟨g,0,none⟩) 512 cp,.slice (some ⟨g2,0,none⟩) 512 cp2,.int .i64 0])/\X Y' w'/\(w.heap.size<=g/\w.heap.size<=g2/\g≠g2)/\(Own w' g 512 cp z1/\Pl.isB z1/\¬Y' g)/\(Own w' g2 512 cp2 z2/\Pl.isB z2/\¬Y' g2)/\Gr Y Y' w/\But Y w w'
theorem Opn.both(h:Opn Y w F K N C t L Ms n)(hK:K+1<4611686018427387904)(hx:Spb w x f r F.st)(hY:¬Y x)(sz lf:Int)(b:Bool)(m:Nat)(hr:r<=262144)(hm:m<=1024)(hf1:64<=f+m)(hf2:f+m<F.nb)(hp:isPg r m ((L (f+m)).getD (C (f+m)))=true) :
  Calls Tryz.prog 146 #[.agg #[.pointer (some ⟨x,0,none⟩),.int .i64 sz,.int .i64 lf,.pointer (some ⟨t,0,none⟩)],.agg #[.pointer (some ⟨F.st,0,none⟩),.bool b],.int .i64 (m:Int)] w (BoP Y w ((L (f+m)).getD (C (f+m))) (cpg b r m (C (f+m))) (fun Y' w'=>Opn Y' w' F (K+2) N C t L Ms n)):=by
 refine both_walk (f:=f) (r:=r) (fun w0 hw0=>?_)
 have hxl:=hx.lt
 have hlt:=h.lt
 have z0:w0.heap.size=w.heap.size+2:=by rw[hw0];simp
 have b0:Below w.heap.size w w0:=by rw[hw0];exact (((Below.refl _ _).alloc (Nat.le_refl _) _).alloc (by simp) _).drew
 have hv0:w0.heap[w.heap.size]?=some (.cells #[.pointer (some ⟨x,0,none⟩),.int .i64 sz,.int .i64 lf,.pointer (some ⟨t,0,none⟩)] 103 (0,0)):=by rw[hw0];exact (heap2 _ _ _).1
 have hc0:w0.heap[w.heap.size+1]?=some (.cells #[.pointer (some ⟨F.st,0,none⟩),.bool b] 164 (0,0)):=by rw[hw0];exact (heap2 _ _ _).2
 have hx0:Spb w0 x f r F.st:=hx.keep (b0.block x hxl)
 refine⟨⟨by simp[World.cell?,hv0],by simp[World.cell?,hv0],hx0.cell 0,hx0.cell 1⟩,?_⟩
 refine Calls.mono ((h.below b0).pageS (by omega) f r m hr hm hf1 hf2) ?_
 rintro e w1 ⟨Y1,k1,k2,_,k4,k5⟩
 obtain⟨g,cp,rfl,k6,k7,k8,k9⟩:=k2 hp
 have s1:=k5.size
 have keep1:∀k,k<w0.heap.size->w.heap.size<=k->w1.heap[k]?=w0.heap[k]?:=fun k a b=>k5.block k a (fun q=>by have:=hlt _ q;omega)
 have hx1:Spb w1 x f r F.st:=hx0.keep (k5.block x hx0.lt hY)
 have hv1:=(keep1 w.heap.size (by omega) (by omega)).trans hv0
 have hc1:=(keep1 (w.heap.size+1) (by omega) (by omega)).trans hc0
 refine⟨g,cp,rfl,⟨by simp[World.cell?,hv1],by simp[World.cell?,hv1],hx1.cell 0,hx1.cell 1⟩,fun w2 hw2=>?_⟩
 have b2:Below w1.heap.size w1 w2:=by rw[hw2];exact Below.drew1 w1
 have s2:w2.heap.size=w1.heap.size:=by rw[hw2];rfl
 have hx2:Spb w2 x f r F.st:=hx1.keep (b2.block x hx1.lt)
 have hv2:=(b2.block w.heap.size (by omega)).trans hv1
 have hc2:=(b2.block (w.heap.size+1) (by omega)).trans hc1
 have nY1:¬Y1 x:=fun q=>hY (k4 x (by omega) q)
 refine⟨⟨by simp[World.cell?,hv2],hx2.cell 0,hx2.cell 1,by simp[World.cell?,hc2],by simp[World.cell?,hc2]⟩,?_⟩
 refine Calls.mono ((k1.below b2).pageC (by omega) b f r m hr hm hf1 hf2) ?_
 rintro e w3 ⟨g2,cp2,Y3,rfl,m1,m2,m3,m4,m5,m6,m7⟩
 have s3:=m7.size
 have l1:=k1.lt
 have keep3:∀k,k<w2.heap.size->¬Y1 k->w3.heap[k]?=w2.heap[k]?:=fun k a b=>m7.block k a b
 have nYv:¬Y1 w.heap.size:=fun q=>by
  have:=hlt _ (k4 _ (by omega) q)
  omega
 have nYc:¬Y1 (w.heap.size+1):=fun q=>by
  have:=hlt _ (k4 _ (by omega) q)
  omega
 have hx3:Spb w3 x f r F.st:=hx2.keep (keep3 x hx2.lt nY1)
 have hv3:=(keep3 w.heap.size (by omega) nYv).trans hv2
 have hc3:=(keep3 (w.heap.size+1) (by omega) nYc).trans hc2
 refine⟨g2,cp2,rfl,⟨by simp[World.cell?,hv3],hx3.cell 0,hx3.cell 1,by simp[World.cell?,hc3],by simp[World.cell?,hc3]⟩,?_⟩
 have k7':Own w3 g 512 cp ((L (f+m)).getD (C (f+m))):=(k7.keep (b2.block g k7.lt)).keep (keep3 g (by have:=k7.lt;omega) k9)
 have gg:Gr Y Y3 w:=fun k hk q=>k4 k (by omega) (m6 k (by omega) q)
 have bb:But Y w w3:=(((But.of_below b0 (X:=Y)).trans k5).comp (But.of_below b2 (X:=fun _=>False)) (fun _ _ q=>q.elim)).comp m7 (fun k hk q=>k4 k (by omega) q)
 exact⟨g,cp,g2,cp2,Y3,rfl,m1,⟨by omega,by omega,by have:=k7.lt;omega⟩,⟨k7',k8,fun q=>k9 (m6 g (by have:=k7.lt;omega) q)⟩,⟨m3,m4,m5⟩,gg,bb⟩
end Go.Proofs.YtlefjidbpjkhlaaGreat
