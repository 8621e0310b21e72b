import Derived.Test.YtlefjidbpjkhlaaGreatK06
import Derived.Test.YtlefjidbpjkhlaaGreatK11
import Derived.Test.YtlefjidbpjkhlaaGreatK00
import Derived.Test.YtlefjidbpjkhlaaGreatK01
import Derived.Below
import Derived.Test.YtlefjidbpjkhlaaGreatK09
import Derived.Lib.SlBytesConst
import Derived.ArgAppend
import Derived.Deep.AppendLies
import Derived.Lib.AppendZeros
import Derived.Test.YtlefjidbpjkhlaaGreatK14
set_option maxRecDepth 100000
set_option maxHeartbeats 16000000
namespace Go.Proofs.YtlefjidbpjkhlaaGreat
variable {n r sz:Nat}
variable {w w1 w2:World}
variable {xs:List Value}
variable {zs:List Int}
open Go.RowKit
def partsN (c s:Nat):Nat:=(c+s-1) / s
def countsN (r:Nat):Nat:=partsN r 480
def indexN (r:Nat):Nat:=partsN (countsN r) 60
def pagesN (r:Nat):Nat:=indexN r+countsN r
theorem pagesN_lo(h:1<=r):1<=pagesN r:=by unfold pagesN indexN countsN partsN;omega
theorem pagesN_hi(h:1<=r):pagesN r<=r / 256+2:=by unfold pagesN indexN countsN partsN;omega
theorem countsN_le(h:r<=262144):countsN r<=547:=by unfold countsN partsN;omega
theorem indexN_le(h:r<=262144):indexN r<=10:=by have:=countsN_le h;unfold indexN partsN;omega
theorem parts_any(c s:Nat)(hc:c<=1048576)(hs:0<s)(hs2:s<=1048576)(w:World):Calls Tryz.prog 139 #[.int .i64 (c:Int),.int .i64 (s:Int)] w fun e w'=>e=.returned (.int .i64 (partsN c s:Int))/\w'=w:=by
 have hs0:¬(s:Int)=0:=by omega
 have hle:partsN c s<=c+s:=by unfold partsN;exact Nat.le_trans (Nat.div_le_self _ _) (by omega)
 have htd:((c:Int)+(s:Int)-1).tdiv (s:Int)=(partsN c s:Int):=by
  rw[Int.tdiv_eq_ediv_of_nonneg (by omega)]
  unfold partsN
  rw[show (c:Int)+(s:Int)-1=((c+s-1:Nat):Int) by omega]
  rfl
 go_enter Tryz.func139,Tryz.ntmps139
 go_wp2
 go_ret
 exact⟨rfl,rfl⟩
theorem counts_any(f:Int)(r:Nat)(hr:r<=262144)(w:World):Calls Tryz.prog 85 #[.agg #[.int .i64 f,.int .i64 (r:Int)]] w fun e w'=>e=.returned (.int .i64 (countsN r:Int))/\Below w.heap.size w w':=by
 obtain⟨w0,hw0⟩:∃w0,w0=w.alloc (.cells #[.int .i64 f,.int .i64 (r:Int)] 92):=⟨_,rfl⟩
 have b0:Below w.heap.size w w0:=by rw[hw0];exact (Below.refl _ _).alloc (Nat.le_refl _) _
 have HP:=hid (parts_any r 480 (by omega) (by omega) (by omega) w0)
 have HW:=hid hw0
 have k1:w0.cell? ⟨w.heap.size,1,none⟩=some (.int .i64 (r:Int)):=by rw[hw0];exact cell_new rfl 1 _ rfl
 have B0:=hid b0
 clear hw0 b0
 go_enter Tryz.func85,Tryz.ntmps85
 go_wp2_with fail
 (try rw[<- HW.out])
 (try go_wp2_with fail)
 refine Calls.mono HP.out ?_
 rintro e w1 ⟨rfl,rfl⟩
 go_wp2
 go_ret
 exact⟨rfl,B0.out⟩
theorem index_any(f:Int)(r:Nat)(hr:r<=262144)(w:World):Calls Tryz.prog 84 #[.agg #[.int .i64 f,.int .i64 (r:Int)]] w fun e w'=>e=.returned (.int .i64 (indexN r:Int))/\Below w.heap.size w w':=by
 obtain⟨w0,hw0⟩:∃w0,w0=w.alloc (.cells #[.int .i64 f,.int .i64 (r:Int)] 92):=⟨_,rfl⟩
 have b0:Below w.heap.size w w0:=by rw[hw0];exact (Below.refl _ _).alloc (Nat.le_refl _) _
 have HC:=hid (counts_any f r hr w0)
 have HP:=hid (fun w1=>parts_any (countsN r) 60 (by have:=countsN_le hr;omega) (by omega) (by omega) w1)
 have HW:=hid hw0
 have k0:w0.cell? ⟨w.heap.size,0,none⟩=some (.int .i64 f):=by rw[hw0];exact cell_new rfl 0 _ rfl
 have k1:w0.cell? ⟨w.heap.size,1,none⟩=some (.int .i64 (r:Int)):=by rw[hw0];exact cell_new rfl 1 _ rfl
 have B0:=hid b0
 clear hw0 b0
 go_enter Tryz.func84,Tryz.ntmps84
 go_wp2_with fail
 (try rw[<- HW.out])
 (try go_wp2_with fail)
 refine Calls.mono HC.out ?_
 rintro e w1 ⟨rfl,b1⟩
 have B1:Hid (Below w.heap.size w w1):=B0.out.trans (b1.mono B0.out.size)
 clear b1 HC k0 k1 B0 HW
 go_wp2_with fail
 refine Calls.mono (HP.out w1) ?_
 rintro e w2 ⟨rfl,rfl⟩
 go_wp2
 go_ret
 exact⟨rfl,B1.out⟩
theorem pages_any(f:Int)(r:Nat)(hr:r<=262144)(w:World):Calls Tryz.prog 45 #[.agg #[.int .i64 f,.int .i64 (r:Int)]] w fun e w'=>e=.returned (.int .i64 (pagesN r:Int))/\Below w.heap.size w w':=by
 obtain⟨pk,hpk⟩:∃pk,pk=w.heap.size:=⟨_,rfl⟩
 obtain⟨w0,hw0⟩:∃w0,w0=w.alloc (.cells #[.int .i64 f,.int .i64 (r:Int)] 92):=⟨_,rfl⟩
 have b0:Below w.heap.size w w0:=by rw[hw0];exact (Below.refl _ _).alloc (Nat.le_refl _) _
 have z0:w0.heap.size=w.heap.size+1:=by rw[hw0];simp
 have hci:=countsN_le hr
 have hii:=indexN_le hr
 have cN:∀t v,#[Value.int .i64 f,.int .i64 (r:Int)][t]?=some v->w0.cell? ⟨pk,t,none⟩=some v:=fun t v hv=>by rw[hw0,hpk];exact cell_new rfl t _ hv
 have k0:=cN 0 _ rfl
 have k1:=cN 1 _ rfl
 have HI:Hid (Calls Tryz.prog 84 #[.agg #[.int .i64 f,.int .i64 (r:Int)]] w0.drew fun e w1=>e=.returned (.int .i64 (indexN r:Int))/\(w1.cell? ⟨pk,0,none⟩=some (.int .i64 f)/\w1.cell? ⟨pk,1,none⟩=some (.int .i64 (r:Int)))/\Calls Tryz.prog 85 #[.agg #[.int .i64 f,.int .i64 (r:Int)]] w1 fun e w2=>e=.returned (.int .i64 (countsN r:Int))/\(w2.cell? ⟨pk,0,none⟩=some (.int .i64 f)/\w2.cell? ⟨pk,1,none⟩=some (.int .i64 (r:Int)))/\Below w.heap.size w w2):=by
  refine Calls.mono (index_any f r hr w0.drew) ?_
  rintro e w1 ⟨rfl,b1⟩
  have b1':Below w0.heap.size w0 w1:=(Below.refl _ _).drew.trans b1
  have K1:∀t,w1.cell? ⟨pk,t,none⟩=w0.cell? ⟨pk,t,none⟩:=fun t=>b1'.cell (p:=⟨pk,t,none⟩) (by show pk<_;omega)
  refine⟨rfl,⟨(K1 0).trans k0,(K1 1).trans k1⟩,Calls.mono (counts_any f r hr w1) ?_⟩
  rintro e w2 ⟨rfl,b2⟩
  have s1:=b1'.size
  have K2:∀t,w2.cell? ⟨pk,t,none⟩=w1.cell? ⟨pk,t,none⟩:=fun t=>b2.cell (p:=⟨pk,t,none⟩) (by show pk<_;omega)
  exact⟨rfl,⟨(K2 0).trans ((K1 0).trans k0),(K2 1).trans ((K1 1).trans k1)⟩,b0.trans ((b1'.mono (by omega)).trans (b2.mono (by omega)))⟩
 have HW:=hid hw0
 have HK:=hid hpk
 have hsum:(indexN r:Int)+(countsN r:Int)=(pagesN r:Int):=by unfold pagesN;omega
 have hwr:IntKind.i64.wrap (pagesN r:Int)=(pagesN r:Int):=by rw[IntKind.wrap_i64];omega
 clear hw0 b0 hpk cN z0
 go_enter Tryz.func45,Tryz.ntmps45
 go_wp2_with fail
 rw[<- HW.out,<- HK.out]
 refine Gz (S:=fun w'=>w'.cell? ⟨pk,0,none⟩=some (.int .i64 f)/\w'.cell? ⟨pk,1,none⟩=some (.int .i64 (r:Int))) ⟨k0,k1⟩ (fun hSS=>?_)
 refine Ti 0 rfl ?_
 refine Ti 2 rfl ?_
 try simp only[Act.put,zA,zB,zC]
 refine Ri 1 rfl (fun K9 hK9=>?_)
 go_simp
 go_at_call 84
 refine Calls.mono HI.out ?_
 rintro e w1 ⟨rfl,hk1,h2⟩
 have H2:=hid h2
 clear h2 HI
 refine hK9.out _ _ hk1 (fun hSS=>?_)
 try simp only[Act.put,zA,zB,zC]
 refine Ri 3 rfl (fun K9 hK9=>?_)
 go_simp
 go_at_call 85
 refine Calls.mono H2.out ?_
 rintro e w2 ⟨rfl,hk2,h3⟩
 refine hK9.out _ _ hk2 (fun hSS=>?_)
 try simp only[Act.put,zA,zB,zC]
 refine Ti 4 rfl ?_
 refine Ti 5 rfl ?_
 try simp only[Act.put,zA,zB,zC]
 refine Dn ?_
 clear hSS
 go_wp2
 go_ret
 exact⟨rfl,h3⟩
theorem isRoom_any(r:Int)(w:World):Calls Tryz.prog 44 #[.int .i64 r] w fun e w'=>e=.returned (.bool (decide (1<=r/\r<=262144)))/\w'=w:=by
 by_cases h1:1<=r
 ·by_cases h2:r<=262144
  ·have hd:decide (1<=r/\r<=262144)=true:=decide_eq_true ⟨h1,h2⟩
   rw[hd]
   clear hd
   go_enter Tryz.func44,Tryz.ntmps44
   go_wp2
   go_ret
   exact⟨rfl,rfl⟩
  ·have hd:decide (1<=r/\r<=262144)=false:=decide_eq_false (fun q=>h2 q.2)
   rw[hd]
   clear hd
   go_enter Tryz.func44,Tryz.ntmps44
   go_wp2
   go_ret
   exact⟨rfl,rfl⟩
 ·have hd:decide (1<=r/\r<=262144)=false:=decide_eq_false (fun q=>h1 q.1)
  rw[hd]
  clear hd
  go_enter Tryz.func44,Tryz.ntmps44
  go_wp2
  go_ret
  exact⟨rfl,rfl⟩
def blkN (r:Int):Int×Int:=if 1<=r/\r<=262144 then ((pagesN r.toNat:Int),0) else (0,60)
theorem SBlocks_any(r:Int)(w:World):Calls Tryz.prog 15 #[.int .i64 r] w fun e w'=>e=.returned (.tuple #[.int .i64 (blkN r).1,.int .i64 (blkN r).2])/\Below w.heap.size w w':=by
 have HR:=hid (isRoom_any r w)
 by_cases h:1<=r/\r<=262144
 ·obtain⟨n,hn⟩:∃n:Nat,r=(n:Int):=⟨r.toNat,by omega⟩
  subst hn
  have hd:decide (1<=(n:Int)/\(n:Int)<=262144)=true:=decide_eq_true h
  have HP:=hid (pages_any 0 n (by omega) w)
  have e1:blkN (n:Int)=((pagesN n:Int),0):=by unfold blkN;rw[if_pos h];simp
  rw[e1]
  rw[hd]at HR
  clear h hd e1
  go_enter Tryz.func15,Tryz.ntmps15
  go_wp2_with fail
  refine Calls.mono HR.out ?_
  rintro e w1 ⟨rfl,rfl⟩
  go_wp2_with fail
  refine Calls.mono HP.out ?_
  rintro e w1 ⟨rfl,b⟩
  have B:=hid b
  clear b HP HR
  go_wp2
  go_ret2
  exact⟨rfl,B.out⟩
 ·have hd:decide (1<=r/\r<=262144)=false:=decide_eq_false h
  have e1:blkN r=(0,60):=by unfold blkN;rw[if_neg h]
  rw[e1]
  rw[hd]at HR
  have B:Hid (Below w.heap.size w w):=Below.refl _ _
  clear h hd e1
  go_enter Tryz.func15,Tryz.ntmps15
  go_wp2_with fail
  refine Calls.mono HR.out ?_
  rintro e w1 ⟨rfl,rfl⟩
  go_wp2
  go_ret2
  exact⟨rfl,B.out⟩
open Go.RowKit
theorem spacked_any(a:Option Addr)(m c:Nat)(fs:List (Int×Int))(w:World)(hm:m<=16777216)(hR:RdF w.heap.size w a m fs)(hok:okF fs) :
  Calls Tryz.prog 142 #[.slice a m c] w fun e w'=>∃g,e=.returned (.slice (some ⟨g,0,none⟩) (packZ fs).length (packZ fs).length)/\w.heap.size<=g/\Blk .u8 5 w' g (packZ fs)/\Below w.heap.size w w':=by
 have H:=hid (Pack_ok a m c fs w hm hR hok)
 clear hR hok hm
 generalize hL:(packZ fs).length=L at *
 go_enter Tryz.func142,Tryz.ntmps142
 go_wp2_with fail
 refine Calls.mono H.out ?_
 rintro e w1 ⟨g,rfl,hg,hb,b1⟩
 have FIN:=hid (And.intro hg (And.intro hb b1))
 clear hg hb b1 H
 go_wp2
 go_ret
 exact⟨g,rfl,FIN.out.1,FIN.out.2.1,FIN.out.2.2⟩
theorem pack2{a x b y:Int}(hw2:w2=w1.alloc (.cells #[.int .i64 a,.int .i64 x,.int .i64 b,.int .i64 y] 204))(hx:-9223372036854775808<=x/\x<=9223372036854775807)(hy:-9223372036854775808<=y/\y<=9223372036854775807)(hok:okF [(a,x),(b,y)]){L:Nat}(hL:(packZ [(a,x),(b,y)]).length=L) :
  Calls Tryz.prog 142 #[.slice (some ⟨w1.heap.size,0,none⟩) 2 2] w2 fun e w'=>∃g,e=.returned (.slice (some ⟨g,0,none⟩) L L)/\w1.heap.size<g/\Blk .u8 5 w' g (packZ [(a,x),(b,y)])/\Below w1.heap.size w1 w':=by
 have z2:w2.heap.size=w1.heap.size+1:=by rw[hw2];simp
 have b2:Below w1.heap.size w1 w2:=by rw[hw2];exact (Below.refl _ _).alloc (Nat.le_refl _) _
 have hc:=fun i v h=>cell_new (w:=w1) (vs:=#[.int .i64 a,.int .i64 x,.int .i64 b,.int .i64 y]) (t:=204) rfl i v h
 refine Calls.mono (spacked_any _ 2 2 [(a,x),(b,y)] w2 (by omega) ⟨rfl,fun f hf=>?_,.inr ⟨w1.heap.size,0,rfl,by omega,fun t ht=>?_⟩⟩ hok) ?_
 ·simp at hf
  rcases hf with rfl | rfl
  ·exact hx
  ·exact hy
 ·rw[hw2]
  rcases t with _ | _ | t
  ·exact⟨hc 0 _ rfl,hc 1 _ rfl⟩
  ·exact⟨hc 2 _ rfl,hc 3 _ rfl⟩
  ·omega
 ·rintro e w3 ⟨g,rfl,hg,hB,b3⟩
  rw[hL]
  exact⟨g,rfl,by omega,hB,b2.trans (b3.mono (by omega))⟩
def markZ:List Int:=[99,105,115,116,101,114,110,39,115,32,99,111,117,110,116,115]
def hdgZ (r n:Nat):List Int:=markZ++packZ [(3,(r:Int)),(2,(n:Int))]
theorem length_hdgZ(r n:Nat):(hdgZ r n).length=21:=by simp[hdgZ,markZ,packZ,Pl.dig]
theorem okF_hdg(h1:r<=262144)(h2:n<=1024):okF [(3,(r:Int)),(2,(n:Int))]:=by
 intro f hf
 simp at hf
 rcases hf with rfl | rfl
 ·unfold chk wfB;simp;omega
 ·unfold chk wfB;simp;omega
theorem append_grow5(w:World){a:Addr}(hx:xs.length=n)(hc:∀j u,xs[j]?=some u->w.cell? (a.add j)=some u)(ad:Addr)(m c:Nat)(news:List Value)(hl:news.length=m)(hnews:∀j u,news[j]?=some u->w.cell? (ad.add j)=some u)(hm:0<m)(h63:n+m<=1073741824) :
  ∃cap w',(Builtin.append_ #[65,65] 65 #[.slice (some a) n n,.slice (some ad) m c]).run Tryz.prog w=.ok (.slice (some ⟨w.heap.size,0,none⟩) (n+m) cap) w'/\w'.ownsRow 0 5 1 (.slice (some ⟨w.heap.size,0,none⟩) (n+m) cap) (n+m) (xs++news)/\Below w.heap.size w w':=by
 obtain⟨i,hi,hz,hsize,hby⟩:=info_parts info5
 have hsmall:n+m<=maxLen:=by unfold maxLen;omega
 have hlen:(xs++news).length=(n+m) * i.size:=by rw[List.length_append,hx,hl,hsize,Nat.mul_one]
 have hge:=grownCap_ge w (n+m) n 5
 have hcm:grownCap w (n+m) n 5<=maxLen:=grownCap_le_maxLen w (n+m) n 5 hsmall
 have hg:n<n+m:=by omega
 have hr:=run_append_grow (P:=Tryz.prog) w 65 65 5 i (.int .u8 0) Tryz.underlying65 hi hz a n n xs (by rw[hsize,Nat.mul_one];exact hx) hc ad m c news (by rw[hsize,Nat.mul_one];exact hl) hnews hg (by omega) (growslice_fits hg (by rw[hby];omega))
 refine⟨_,_,hr,⟨by rw[hlen,hsize],.inr ⟨w.heap.size,_,_,rfl,Nat.zero_le _,heap_alloc_new w.drew _,hge,hcm,?_,?_⟩⟩,(Below.refl _ _).drew.alloc (by simp) _⟩
 ·simp only[Array.size_append,List.size_toArray,size_zeroCells,hx,hl]
  simp[Value.cells]
  omega
 ·rw[hsize]at hlen
  simp only[Array.toList_append,List.append_assoc]
  rw[<- List.append_assoc,<- hlen]
  exact List.take_left
theorem heading_any(f:Int)(h1:r<=262144)(h2:n<=1024)(w:World):Calls Tryz.prog 141 #[.agg #[.int .i64 f,.int .i64 (r:Int)],.int .i64 (n:Int)] w fun e w'=>∃g cap,e=.returned (.slice (some ⟨g,0,none⟩) 21 cap)/\w.heap.size<=g/\Own w' g 21 cap (hdgZ r n)/\Below w.heap.size w w':=by
 obtain⟨w0,hw0⟩:∃w0,w0=w.alloc (.cells #[.int .i64 f,.int .i64 (r:Int)] 92):=⟨_,rfl⟩
 have z0:w0.heap.size=w.heap.size+1:=by rw[hw0];simp
 have b0:Below w.heap.size w w0:=by rw[hw0];exact (Below.refl _ _).alloc (Nat.le_refl _) _
 obtain⟨w1,hw1⟩:∃w1,w1=w0.alloc (.cells #[.int .u8 99,.int .u8 105,.int .u8 115,.int .u8 116,.int .u8 101,.int .u8 114,.int .u8 110,.int .u8 39,.int .u8 115,.int .u8 32,.int .u8 99,.int .u8 111,.int .u8 117,.int .u8 110,.int .u8 116,.int .u8 115] 5 (16,17)):=⟨_,rfl⟩
 have z1:w1.heap.size=w0.heap.size+1:=by rw[hw1];simp
 have b01:Below w0.heap.size w0 w1:=by rw[hw1];exact (Below.refl _ _).alloc (Nat.le_refl _) _
 have b1:Below w.heap.size w w1:=b0.trans (b01.mono (by omega))
 obtain⟨w2,hw2⟩:∃w2,w2=w1.alloc (.cells #[.int .i64 3,.int .i64 (r:Int),.int .i64 2,.int .i64 (n:Int)] 204):=⟨_,rfl⟩
 have k1:w1.cell? ⟨w.heap.size,1,none⟩=some (.int .i64 (r:Int)):=(b01.cell (p:=⟨w.heap.size,1,none⟩) (by show w.heap.size<_;omega)).trans (by rw[hw0];exact cell_new rfl 1 _ rfl)
 have hblk:w1.heap[w0.heap.size]?=some (.cells #[.int .u8 99,.int .u8 105,.int .u8 115,.int .u8 116,.int .u8 101,.int .u8 114,.int .u8 110,.int .u8 39,.int .u8 115,.int .u8 32,.int .u8 99,.int .u8 111,.int .u8 117,.int .u8 110,.int .u8 116,.int .u8 115] 5 (16,17)):=by rw[hw1];exact Array.getElem?_push_size
 have hmk:∀j u,(markZ.map (Value.int .u8))[j]?=some u->w1.cell? ((⟨w0.heap.size,0,none⟩:Addr).add j)=some u:=fun j u hu=>World.news_of_block (w:=w1) (B:=w0.heap.size) (cs:=#[.int .u8 99,.int .u8 105,.int .u8 115,.int .u8 116,.int .u8 101,.int .u8 114,.int .u8 110,.int .u8 39,.int .u8 115,.int .u8 32,.int .u8 99,.int .u8 111,.int .u8 117,.int .u8 110,.int .u8 116,.int .u8 115]) (t:=5) (fr:=(16,17)) hblk j u (by simpa [markZ] using hu)
 have HP:Hid (Calls Tryz.prog 142 #[.slice (some ⟨w1.heap.size,0,none⟩) 2 2] w2 fun e w3=>∃g,e=.returned (.slice (some ⟨g,0,none⟩) 5 5)/\∃cap w4,(Builtin.append_ #[65,65] 65 #[.slice (some ⟨w0.heap.size,0,none⟩) 16 16,.slice (some ⟨g,0,none⟩) 5 5]).run Tryz.prog w3=.ok (.slice (some ⟨w3.heap.size,0,none⟩) 21 cap) w4/\w.heap.size<=w3.heap.size/\Own w4 w3.heap.size 21 cap (hdgZ r n)/\Below w.heap.size w w4):=by
  refine Calls.mono (pack2 hw2 (by omega) (by omega) (okF_hdg h1 h2) (L:=5) (by simp[packZ,Pl.dig])) ?_
  rintro e w3 ⟨g,rfl,hg,hB,b3⟩
  obtain⟨cap,w4,hr,ho,b4⟩:=append_grow5 w3 (a:=⟨w0.heap.size,0,none⟩) (n:=16) (xs:=markZ.map (Value.int .u8)) rfl (fun j u hu=>(b3.cell (p:=(⟨w0.heap.size,0,none⟩:Addr).add j) (by rw[Addr.add_lit];show w0.heap.size<_;omega)).trans (hmk j u hu)) ⟨g,0,none⟩ 5 5 ((packZ [(3,(r:Int)),(2,(n:Int))]).map (Value.int .u8)) (by simp[packZ,Pl.dig]) (fun j u hu=>World.news_of_block (w:=w3) (B:=g) hB j u (by simpa using hu)) (by decide) (by decide)
  have s3:=b3.size
  refine⟨g,rfl,cap,w4,hr,by omega,Own.of (base:=0) ?_,(b1.trans (b3.mono (by omega))).trans (b4.mono (by omega))⟩
  rw[<- List.map_append]at ho
  exact ho
 have hcv:(convert 65 65 (.slice (some ⟨w.heap.size+1,0,none⟩) 16 16)).run Tryz.prog ((w.alloc (.cells #[.int .i64 f,.int .i64 (r:Int)] 92)).alloc (.cells #[.int .u8 99,.int .u8 105,.int .u8 115,.int .u8 116,.int .u8 101,.int .u8 114,.int .u8 110,.int .u8 39,.int .u8 115,.int .u8 32,.int .u8 99,.int .u8 111,.int .u8 117,.int .u8 110,.int .u8 116,.int .u8 115] 5))=.ok (.slice (some ⟨w.heap.size+1,0,none⟩) 16 16) ((w.alloc (.cells #[.int .i64 f,.int .i64 (r:Int)] 92)).alloc (.cells #[.int .u8 99,.int .u8 105,.int .u8 115,.int .u8 116,.int .u8 101,.int .u8 114,.int .u8 110,.int .u8 39,.int .u8 115,.int .u8 32,.int .u8 99,.int .u8 111,.int .u8 117,.int .u8 110,.int .u8 116,.int .u8 115] 5 (16,17))):=by
  have:=Lib.run_convert_bytes_const (P:=Tryz.prog) w0 65 5 #[.int .u8 99,.int .u8 105,.int .u8 115,.int .u8 116,.int .u8 101,.int .u8 114,.int .u8 110,.int .u8 39,.int .u8 115,.int .u8 32,.int .u8 99,.int .u8 111,.int .u8 117,.int .u8 110,.int .u8 116,.int .u8 115] 16 16 Tryz.underlying65 Tryz.underlying5
  rw[z0,hw0]at this
  exact this
 have HW0:=hid hw0
 have HW1:=hid hw1
 have HW2:=hid hw2
 have k1':((w.alloc (.cells #[.int .i64 f,.int .i64 (r:Int)] 92)).alloc (.cells #[.int .u8 99,.int .u8 105,.int .u8 115,.int .u8 116,.int .u8 101,.int .u8 114,.int .u8 110,.int .u8 39,.int .u8 115,.int .u8 32,.int .u8 99,.int .u8 111,.int .u8 117,.int .u8 110,.int .u8 116,.int .u8 115] 5 (16,17))).cell? ⟨w.heap.size,1,none⟩=some (.int .i64 (r:Int)):=by rw[<- hw0,<- hw1];exact k1
 have e1:w1.heap.size=w.heap.size+1+1:=by omega
 rw[e1,z0]at HP
 clear hw0 hw1 hw2 b0 b1 b01 k1 hblk hmk z0 z1 e1
 go_enter Tryz.func141,Tryz.ntmps141
 go_wp2_with fail
 rw[<- HW0.out,<- HW1.out,<- HW2.out]
 refine Calls.mono HP.out ?_
 rintro e w3 ⟨g,rfl,cap,w4,happ,hF⟩
 have FIN:=hid hF
 clear hF HP HW0 HW1 HW2 k1' hcv
 go_wp2_with (at_builtin;refine Lib.wpList_append_run _ rfl _ _ _ _ rfl _ _ rfl rfl _ _ happ ?_)
 go_wp2
 go_ret
 exact⟨_,cap,rfl,FIN.out.1,FIN.out.2.1,FIN.out.2.2⟩
open Go.RowKit
theorem isB_hdgZ(r n:Nat):Pl.isB (hdgZ r n):=by
 intro z hz
 rcases List.mem_append.1 hz with h | h
 ·simp[markZ]at h
  omega
 ·exact isB_packZ _ z h
def spgZ (r n:Nat):List Int:=splice (zeros 512) 0 (hdgZ r n)
theorem sblank_any(f:Int)(h1:r<=262144)(h2:n<=1024)(w:World):Calls Tryz.prog 91 #[.agg #[.int .i64 f,.int .i64 (r:Int)],.int .i64 (n:Int)] w fun e w'=>∃g,e=.returned (.slice (some ⟨g,0,none⟩) 512 512)/\w.heap.size<=g/\Blk .u8 5 w' g (spgZ r n)/\Below w.heap.size w w':=by
 obtain⟨w0,hw0⟩:∃w0,w0=w.alloc (.cells #[.int .i64 f,.int .i64 (r:Int)] 92):=⟨_,rfl⟩
 have z0:w0.heap.size=w.heap.size+1:=by rw[hw0];simp
 have b0:Below w.heap.size w w0:=by rw[hw0];exact (Below.refl _ _).alloc (Nat.le_refl _) _
 obtain⟨wm,hwm⟩:∃wm,wm=w0.alloc (.cells ((zeros 512).map (Value.int .u8)).toArray 5):=⟨_,rfl⟩
 have zm:wm.heap.size=w0.heap.size+1:=by rw[hwm];simp
 have b01:Below w0.heap.size w0 wm:=by rw[hwm];exact (Below.refl _ _).alloc (Nat.le_refl _) _
 have bm:Below w.heap.size w wm:=b0.trans (b01.mono (by omega))
 have hmk:∀u:World,(Instr.makeSlice 65 (.int .i64 512) (.int .i64 512)).run Tryz.prog u=.ok (.slice (some ⟨u.heap.size,0,none⟩) 512 512) (u.alloc (.cells ((zeros 512).map (Value.int .u8)).toArray 5)):=make_u8 512 (by omega)
 have cN:∀t v,#[Value.int .i64 f,.int .i64 (r:Int)][t]?=some v->wm.cell? ⟨w.heap.size,t,none⟩=some v:=fun t v hv=>(b01.cell (p:=⟨w.heap.size,t,none⟩) (by show w.heap.size<_;omega)).trans (by rw[hw0];exact cell_new rfl t _ hv)
 have k0:=cN 0 _ rfl
 have k1:=cN 1 _ rfl
 have HH:Hid (Calls Tryz.prog 141 #[.agg #[.int .i64 f,.int .i64 (r:Int)],.int .i64 (n:Int)] wm fun e w2=>∃g2 cap,e=.returned (.slice (some ⟨g2,0,none⟩) 21 cap)/\∃w3,Sem.run Tryz.prog (Builtin.copy_ #[65,65] 3 #[.slice (some ⟨w.heap.size+1,0,none⟩) 512 512,.slice (some ⟨g2,0,none⟩) 21 cap]) w2=.ok (.int .i64 21) w3/\Blk .u8 5 w3 (w.heap.size+1) (spgZ r n)/\Below w.heap.size w w3):=by
  refine Calls.mono (heading_any f h1 h2 wm) ?_
  rintro e w2 ⟨g2,cap,rfl,hg2,hO,b2⟩
  have hB2:Blk .u8 5 w2 (w.heap.size+1) (zeros 512):=Blk.below (by rw[<- z0,hwm];exact Blk.new w0 _) b2 (by omega)
  obtain⟨w3,hcp,hB3,hs3,hg3⟩:=copy_u8 (w.heap.size+1) 0 512 512 (some ⟨g2,0,none⟩) 21 cap (zeros 512) (hdgZ r n) w2 w2.heap.size hB2 (hO.rd (isB_hdgZ r n)) (by omega) (by rw[length_zeros];omega)
  exact⟨g2,cap,rfl,w3,hcp,hB3,(bm.trans (b2.mono (by omega))).grown hg3 (by have:=bm.size;have:=b2.size;omega) (fun k h=>by cases h;omega)⟩
 have HW0:=hid hw0
 have HWM:=hid hwm
 have hsz:Hid (w0.heap.size=w.heap.size+1):=z0
 clear hw0 hwm b0 b01 bm cN z0 zm h1 h2
 go_enter Tryz.func91,Tryz.ntmps91
 go_wp2_with fail
 (try rw[<- HW0.out])
 (try rw[<- HWM.out])
 go_wp2_with fail
 refine Calls.mono HH.out ?_
 rintro e w2 ⟨g2,cap,rfl,w3,hcp,hF⟩
 have FIN:=hid hF
 clear hF HH k0 k1
 go_wp2
 go_ret
 exact⟨_,rfl,by omega,FIN.out.1,FIN.out.2⟩
open Go.RowKit
theorem okF_shead{lf:Nat}(h1:sz<=262144)(h2:lf<=1099511627775):okF [(3,(sz:Int)),(5,(lf:Int))]:=by
 intro f hf
 simp at hf
 rcases hf with rfl | rfl
 ·unfold chk wfB;simp;omega
 ·unfold chk wfB;simp;omega
def sheadZ (sz lf:Nat):List Int:=packZ [(3,(sz:Int)),(5,(lf:Int))]
theorem length_sheadZ(sz lf:Nat):(sheadZ sz lf).length=8:=by simp[sheadZ,packZ,Pl.dig]
theorem hput_any{G cap:Nat}{lf:Nat}(h1:sz<=262144)(h2:lf<=1099511627775)(hO:Own w G 512 cap zs):Calls Tryz.prog 92 #[.agg #[.int .i64 (sz:Int),.int .i64 (lf:Int)],.slice (some ⟨G,0,none⟩) 512 cap] w fun e w'=>e=.returned (.tuple #[])/\Own w' G 512 cap (splice zs 21 (sheadZ sz lf))/\But (fun k=>k=G) w w':=by
 refine poz fun PO hPO=>?_
 obtain⟨pk,hpk⟩:∃pk,pk=w.heap.size:=⟨_,rfl⟩
 obtain⟨w0,hw0⟩:∃w0,w0=w.alloc (.cells #[.int .i64 (sz:Int),.int .i64 (lf:Int)] 99):=⟨_,rfl⟩
 have z0:w0.heap.size=w.heap.size+1:=by rw[hw0];simp
 have b0:Below w.heap.size w w0:=by rw[hw0];exact (Below.refl _ _).alloc (Nat.le_refl _) _
 have cN:∀t v,#[Value.int .i64 (sz:Int),.int .i64 (lf:Int)][t]?=some v->w0.cell? ⟨pk,t,none⟩=some v:=fun t v hv=>by rw[hw0,hpk];exact cell_new rfl t _ hv
 have k0:=cN 0 _ rfl
 have k1:=cN 1 _ rfl
 have hcap:512<=cap:=by
  rcases hO.2 with ⟨q,_⟩ | ⟨g,c,cur,q,_,_,q2,_⟩
  ·cases q
  ·injection q with _ _ q;omega
 have hGl:G<w.heap.size:=hO.lt
 have hc29:(29:Int)<=(cap:Int):=by omega
 have hc21:¬cap=21:=by omega
 obtain⟨wf,hwf⟩:∃wf,wf=(w0.alloc (.cells #[.int .i64 3,.int .i64 (sz:Int),.int .i64 5,.int .i64 (lf:Int)] 204)).drew:=⟨_,rfl⟩
 have bf:Below w0.heap.size w0 wf:=by rw[hwf];exact ((Below.refl _ _).alloc (Nat.le_refl _) _).drew
 have kf:wf.cell? ⟨pk,0,none⟩=some (.int .i64 (sz:Int))/\wf.cell? ⟨pk,1,none⟩=some (.int .i64 (lf:Int)):=⟨(bf.cell (p:=⟨pk,0,none⟩) (by show pk<_;omega)).trans k0,(bf.cell (p:=⟨pk,1,none⟩) (by show pk<_;omega)).trans k1⟩
 have HP:Hid (Calls Tryz.prog 142 #[.slice (some ⟨w0.heap.size,0,none⟩) 2 2] wf fun e w2=>∃g,e=.returned (.slice (some ⟨g,0,none⟩) 8 8)/\(w2.cell? ⟨pk,0,none⟩=some (.int .i64 (sz:Int))/\w2.cell? ⟨pk,1,none⟩=some (.int .i64 (lf:Int)))/\∃w3,(Builtin.copy_ #[65,65] 3 #[.slice (some ⟨G,21,none⟩) 8 (cap-21),.slice (some ⟨g,0,none⟩) 8 8]).run Tryz.prog w2=.ok (.int .i64 8) w3/\(w3.cell? ⟨pk,0,none⟩=some (.int .i64 (sz:Int))/\w3.cell? ⟨pk,1,none⟩=some (.int .i64 (lf:Int)))/\PO (.returned (.tuple #[])) w3):=by
  refine Calls.mono (pack2 (w1:=w0.drew) (w2:=wf) (hwf.trans rfl) (by omega) (by omega) (okF_shead h1 h2) (L:=8) (by simp[packZ,Pl.dig])) ?_
  rintro e w2 ⟨g,rfl,hg,hB,b2⟩
  have b2':Below w0.heap.size w0 w2:=(Below.refl _ _).drew.trans b2
  have hO2:Own w2 G 512 cap zs:=hO.keep ((b2'.block G (by omega)).trans (b0.block G hGl))
  have hgl:w0.heap.size<g:=hg
  obtain⟨w3,hr,hO3,bt3⟩:=copy_own (ty:=3) (o:=21) (dLen:=8) (dCap:=cap-21) (ad:=⟨g,0,none⟩) (m:=8) (sCap:=8) (cs:=packZ [(3,(sz:Int)),(5,(lf:Int))]) hO2 (by simp[packZ,Pl.dig]) (by omega) (by omega) (fun j u hu=>World.news_of_block (w:=w2) (B:=g) hB j u (by simpa using hu))
  have K2:∀t v,w0.cell? ⟨pk,t,none⟩=some v->w2.cell? ⟨pk,t,none⟩=some v:=fun t v hv=>(b2'.cell (p:=⟨pk,t,none⟩) (by show pk<_;omega)).trans hv
  have K3:∀t v,w2.cell? ⟨pk,t,none⟩=some v->w3.cell? ⟨pk,t,none⟩=some v:=fun t v hv=>(bt3.cell (p:=⟨pk,t,none⟩) (by show pk<_;have:=b2'.size;omega) (by show ¬pk=G;omega)).trans hv
  refine⟨g,rfl,⟨K2 0 _ k0,K2 1 _ k1⟩,w3,hr,⟨K3 0 _ (K2 0 _ k0),K3 1 _ (K2 1 _ k1)⟩,?_⟩
  rw[hPO]
  refine⟨rfl,hO3,?_⟩
  exact ((But.of_below b0).trans (But.of_below b2')).comp bt3 (fun _ _ q=>q)
 have HW:=hid hw0
 have HK:=hid hpk
 have HWF:=hid hwf
 clear hw0 b0 cN z0 hPO bf h1 h2 hO hpk hwf hGl
 go_enter Tryz.func92,Tryz.ntmps92
 go_wp2_with fail
 rw[<- HW.out,<- HK.out]
 refine Gz (S:=fun w'=>w'.cell? ⟨pk,0,none⟩=some (.int .i64 (sz:Int))/\w'.cell? ⟨pk,1,none⟩=some (.int .i64 (lf:Int))) ⟨k0,k1⟩ (fun hSS=>?_)
 refine Ti 0 rfl ?_
 refine Ti 1 rfl ?_
 refine Ti 2 rfl ?_
 refine Ti 3 rfl ?_
 refine Ti 4 rfl ?_
 refine Ti 5 rfl ?_
 try simp only[Act.put,zA,zB,zC]
 refine Ti 6 rfl ?_
 refine Ti 7 rfl ?_
 try simp only[Act.put,zA,zB,zC]
 refine Ri 8 rfl (fun K9 hK9=>?_)
 go_simp
 rw[<- HWF.out]
 refine hK9.out _ _ kf (fun hSS=>?_)
 try simp only[Act.put,zA,zB,zC]
 refine Ri 9 rfl (fun K9 hK9=>?_)
 go_simp
 go_at_call 142
 refine Calls.mono HP.out ?_
 rintro e w2 ⟨g,rfl,hk2,w3,hcp,hk3,hF⟩
 have FIN:=hid hF
 clear hF HP
 refine hK9.out _ _ hk2 (fun hSS=>?_)
 try simp only[Act.put,zA,zB,zC]
 refine Ri 10 rfl (fun K9 hK9=>?_)
 go_simp
 refine hK9.out _ _ hk3 (fun hSS=>?_)
 try simp only[Act.put,zA,zB,zC]
 refine Dn ?_
 clear hSS
 go_wp2
 go_end0
 exact FIN.out
open Go.RowKit
def szOf (zs:List Int):Int:=Pl.num ((zs.drop 21).take 3)
def lfOf (zs:List Int):Int:=Pl.num ((zs.drop 24).take 5)
theorem num_take(hb:Pl.isB zs)(o k:Nat)(hk:k<=5):0<=Pl.num ((zs.drop o).take k)/\Pl.num ((zs.drop o).take k)<1099511627776:=by
 have hbb:Pl.isB ((zs.drop o).take k):=fun z hz=>hb z (List.mem_of_mem_drop (List.mem_of_mem_take hz))
 refine⟨Pl.num_nonneg hbb,?_⟩
 have h1:=Pl.num_lt hbb
 have h2:((zs.drop o).take k).length<=5:=by rw[List.length_take];omega
 generalize ((zs.drop o).take k).length=L at h1 h2
 have h3:(256:Int) ^ L<=1099511627776:=by
  rcases (show L=0\/L=1\/L=2\/L=3\/L=4\/L=5 by omega) with rfl | rfl | rfl | rfl | rfl | rfl <;> decide
 omega
theorem shead_any{G cap:Nat}(hO:Own w G 512 cap zs)(hb:Pl.isB zs):Calls Tryz.prog 94 #[.slice (some ⟨G,0,none⟩) 512 cap] w fun e w'=>e=.returned (.agg #[.int .i64 (szOf zs),.int .i64 (lfOf zs)])/\Below w.heap.size w w':=by
 obtain⟨v0,hv0⟩:∃v0,v0=szOf zs:=⟨_,rfl⟩
 obtain⟨v1,hv1⟩:∃v1,v1=lfOf zs:=⟨_,rfl⟩
 rw[<- hv0,<- hv1]
 refine poz fun PO hPO=>?_
 have hcap:512<=cap:=by
  rcases hO.2 with ⟨q,_⟩ | ⟨g,c,cur,q,_,_,q2,_⟩
  ·cases q
  ·injection q with _ _ q;omega
 have hGl:G<w.heap.size:=hO.lt
 have hc29:(29:Int)<=(cap:Int):=by omega
 have hc21:¬cap=21:=by omega
 obtain⟨w0,hw0⟩:∃w0,w0=w.alloc (.cells #[.int .i64 0,.int .i64 0] 99):=⟨_,rfl⟩
 have z0:w0.heap.size=w.heap.size+1:=by rw[hw0];simp
 have b0:Below w.heap.size w w0:=by rw[hw0];exact (Below.refl _ _).alloc (Nat.le_refl _) _
 have h0:w0.heap[w.heap.size]?=some (.cells #[.int .i64 0,.int .i64 0] 99 (0,0)):=by rw[hw0];exact Array.getElem?_push_size
 obtain⟨w1,hw1⟩:∃w1,w1=w0.alloc (.cells #[.int .i64 3,.int .i64 5] 3):=⟨_,rfl⟩
 have z1:w1.heap.size=w0.heap.size+1:=by rw[hw1];simp
 have b01:Below w0.heap.size w0 w1:=by rw[hw1];exact (Below.refl _ _).alloc (Nat.le_refl _) _
 have hO1:Own w1 G 512 cap zs:=hO.keep ((b01.block G (by omega)).trans (b0.block G hGl))
 have hR:Rd w1.heap.size w1 (some ⟨G,21,none⟩) 8 ((zs.drop 21).take 8):=by
  have:=rd_part (hO1.rd hb) 21 8 (by omega) (by omega)
  simpa using this
 have hRI:RdI w1.heap.size w1 (some ⟨w0.heap.size,0,none⟩) 2 [3,5]:=⟨rfl,.inr ⟨w0.heap.size,0,rfl,by omega,fun t ht=>by
  rw[hw1]
  rcases t with _ | _ | t
  ·exact cell_new rfl 0 _ rfl
  ·exact cell_new rfl 1 _ rfl
  ·omega⟩⟩
 have hn0:=num_take hb 21 3 (by omega)
 have hn1:=num_take hb 24 5 (by omega)
 have hk0:valK ((zs.drop 21).take 8) [3,5] 0=v0:=by rw[hv0];simp[valK,sumW,szOf,List.take_take]
 have hk1:valK ((zs.drop 21).take 8) [3,5] 1=v1:=by rw[hv1];simp[valK,sumW,lfOf,List.drop_take,List.take_take,List.drop_drop]
 have hvs:vals ((zs.drop 21).take 8) [3,5] 2=[v0,v1]:=by simp[vals,hk0,hk1]
 have HU:Hid (Calls Tryz.prog 143 #[.slice (some ⟨G,21,none⟩) 8 (cap-21),.slice (some ⟨w0.heap.size,0,none⟩) 2 2] w1 fun e w2=>∃g,e=.returned (.tuple #[.slice (some ⟨g,0,none⟩) 2 2,.int .i64 0])/\(w2.cell? ⟨g,0,none⟩=some (.int .i64 v0)/\w2.cell? ⟨g,1,none⟩=some (.int .i64 v1))/\w2.heap[w.heap.size]?=some (.cells #[.int .i64 0,.int .i64 0] 99 (0,0))/\g≠w.heap.size/\g<w2.heap.size/\Below w.heap.size w w2):=by
  refine Calls.mono (Unpack_ok (some ⟨G,21,none⟩) (some ⟨w0.heap.size,0,none⟩) 8 (cap-21) 2 2 ((zs.drop 21).take 8) [3,5] w1 (by omega) (by omega) hR hRI (by intro x hx;simp at hx;rcases hx with rfl | rfl <;> decide) rfl (fun k hk=>?_)) ?_
  ·rcases k with _ | _ | k
   ·rw[hk0,hv0];unfold szOf;omega
   ·rw[hk1,hv1];unfold lfOf;omega
   ·omega
  ·rintro e w2 ⟨g,rfl,hg,hB,b2⟩
   rw[hvs]at hB
   refine⟨g,rfl,⟨hB.cell 0 (by simp),hB.cell 1 (by simp)⟩,(b2.block _ (by omega)).trans ((b01.block _ (by omega)).trans h0),by omega,hB.lt,b0.trans ((b01.mono (by omega)).trans (b2.mono (by omega)))⟩
 have HW0:=hid hw0
 have HW1:=hid hw1
 have HF:Hid (∀w2:World,w2.heap[w.heap.size]?=some (.cells #[.int .i64 0,.int .i64 0] 99 (0,0))->Below w.heap.size w w2->PO (.returned (.agg #[.int .i64 v0,.int .i64 v1])) ((w2.drew.setCell ⟨w.heap.size,0,none⟩ (.int .i64 v0)).setCell ⟨w.heap.size,1,none⟩ (.int .i64 v1))/\((w2.drew.setCell ⟨w.heap.size,0,none⟩ (.int .i64 v0)).setCell ⟨w.heap.size,1,none⟩ (.int .i64 v1)).heap[w.heap.size]?=some (.cells #[.int .i64 v0,.int .i64 v1] 99 (0,0))):=fun w2 hh b2=>by
  have bt:But (fun k=>k=w.heap.size) w2 ((w2.drew.setCell ⟨w.heap.size,0,none⟩ (.int .i64 v0)).setCell ⟨w.heap.size,1,none⟩ (.int .i64 v1)):=((But.refl (fun k=>k=w.heap.size) w2).drew.setCell (p:=⟨w.heap.size,0,none⟩) rfl _).setCell (p:=⟨w.heap.size,1,none⟩) rfl _
  rw[hPO]
  refine⟨⟨rfl,b2.trans (bt.below b2.size (fun k hk e=>by omega))⟩,?_⟩
  have hh':w2.drew.heap[w.heap.size]?=some (.cells #[.int .i64 0,.int .i64 0] 99 (0,0)):=hh
  simp[World.setCell,Array.getElem?_modify,hh']
 rw[z0]at HU
 clear hw0 hw1 b0 b01 z0 z1 hO hO1 hR hRI hn0 hn1 hk0 hk1 hvs hPO hv0 hv1 h0
 go_enter Tryz.func94,Tryz.ntmps94
 go_wp2_with fail
 rw[<- HW0.out,<- HW1.out]
 refine Calls.mono HU.out ?_
 rintro e w2 ⟨g,rfl,⟨c0,c1⟩,hh,hgn,hgl,b2⟩
 obtain⟨hFin,hres⟩:=HF.out w2 hh b2
 have FIN:=hid hFin
 have HRS:=hid hres
 have s0:w2.cell? ⟨w.heap.size,0,none⟩=some (.int .i64 0):=by simp[World.cell?,hh]
 have s1:w2.cell? ⟨w.heap.size,1,none⟩=some (.int .i64 0):=by simp[World.cell?,hh]
 have f0:w2.frozen? ⟨w.heap.size,0,none⟩=false:=by simp[World.frozen?,hh]
 have f1:w2.frozen? ⟨w.heap.size,1,none⟩=false:=by simp[World.frozen?,hh]
 have bt:But (fun k=>k=w.heap.size) w2 ((w2.drew.setCell ⟨w.heap.size,0,none⟩ (.int .i64 v0)).setCell ⟨w.heap.size,1,none⟩ (.int .i64 v1)):=((But.refl (fun k=>k=w.heap.size) w2).drew.setCell (p:=⟨w.heap.size,0,none⟩) rfl _).setCell (p:=⟨w.heap.size,1,none⟩) rfl _
 have kS:((w2.drew.setCell ⟨w.heap.size,0,none⟩ (.int .i64 v0)).setCell ⟨w.heap.size,1,none⟩ (.int .i64 v1)).cell? ⟨g,0,none⟩=some (.int .i64 v0)/\((w2.drew.setCell ⟨w.heap.size,0,none⟩ (.int .i64 v0)).setCell ⟨w.heap.size,1,none⟩ (.int .i64 v1)).cell? ⟨g,1,none⟩=some (.int .i64 v1):=⟨(bt.cell (p:=⟨g,0,none⟩) hgl hgn).trans c0,(bt.cell (p:=⟨g,1,none⟩) hgl hgn).trans c1⟩
 clear hFin hres HF HU HW0 HW1 hh b2 bt
 go_wp2_with fail
 refine Gz (S:=fun w'=>w'.cell? ⟨g,0,none⟩=some (.int .i64 v0)/\w'.cell? ⟨g,1,none⟩=some (.int .i64 v1)) ⟨c0,c1⟩ (fun hSS=>?_)
 refine Ti 0 rfl ?_
 refine Ti 1 rfl ?_
 refine Ti 2 rfl ?_
 refine Ti 3 rfl ?_
 refine Ti 4 rfl ?_
 refine Ti 5 rfl ?_
 try simp only[Act.put,zA,zB,zC]
 refine Ti 6 rfl ?_
 try simp only[Act.put,zA,zB,zC]
 refine Ri 7 rfl (fun K9 hK9=>?_)
 go_simp
 refine hK9.out _ _ kS (fun hSS=>?_)
 try simp only[Act.put,zA,zB,zC]
 refine Dn ?_
 clear hSS
 go_wp2_with fail
 (try simp only[Exit.inBlock,Exit.then])
 exact bodyPost_ret (results_cell_row rfl _ _ w.heap.size 99 #[.int .i64 v0,.int .i64 v1] (0,0) _ rfl HRS.out Tryz.underlying99 rfl (by kernel_rfl)) rfl FIN.out
end Go.Proofs.YtlefjidbpjkhlaaGreat
