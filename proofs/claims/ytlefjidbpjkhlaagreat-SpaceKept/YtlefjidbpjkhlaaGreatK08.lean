import Derived.Test.YtlefjidbpjkhlaaGreatK07
import Derived.Test.YtlefjidbpjkhlaaGreatK00
import Derived.Test.YtlefjidbpjkhlaaGreatK06
set_option maxRecDepth 100000
set_option maxHeartbeats 16000000
namespace Go.Proofs.YtlefjidbpjkhlaaGreat
variable {k n:Nat}
variable {ws zs:List Int}
variable {w:World}
open Go.RowKit
def chk (x v:Int):Int:=if wfB x=false then 10 else if v<0\/256 ^ x.toNat<=v then 11 else 0
theorem checkField_any(x v:Int)(w:World)(v1:-9223372036854775808<=v)(v2:v<=9223372036854775807) :
  Calls Tryz.prog 219 #[.agg #[.int .i64 x,.int .i64 v]] w fun e w'=>e=.returned (.int .i64 (chk x v))/\w'=w.alloc (.cells #[.int .i64 x,.int .i64 v] 204):=by
 by_cases hx:wfB x=true
 ·have hx':1<=x/\x<=8:=by simpa [wfB] using hx
  have HX:Hid (wfB x=true):=hx
  by_cases hv:v<0
  ·have e:chk x v=11:=by simp[chk,hx,hv]
   rw[e]
   clear e
   go_enter Tryz.func219,Tryz.ntmps219
   go_wp2_with (go_at_call 182;refine (widthFits_any _ _).mono ?_;rintro e w' ⟨rfl,rfl⟩)
   go_ret
   exact⟨rfl,rfl⟩
  ·have hv0:0<=v:=by omega
   have e:chk x v=if 256 ^ x.toNat<=v then 11 else 0:=by simp[chk,hx,hv]
   rw[e]
   clear e hv
   rcases (show x=1\/x=2\/x=3\/x=4\/x=5\/x=6\/x=7\/x=8 from by omega) with rfl | rfl | rfl | rfl | rfl | rfl | rfl | rfl
   ·rw[show (256:Int) ^ (1:Int).toNat=256 from by decide]
    clear hx' HX
    by_cases h:256<=v
    ·have h2:(v / 256 != 0)=true:=by simp;omega
     rw[if_pos h]
     go_enter Tryz.func219,Tryz.ntmps219
     go_wp2_with (go_at_call 182;refine (widthFits_any _ _).mono ?_;rintro e w' ⟨rfl,rfl⟩)
     go_ret
     exact⟨rfl,rfl⟩
    ·have h2:(v / 256 != 0)=false:=by simp;omega
     rw[if_neg h]
     go_enter Tryz.func219,Tryz.ntmps219
     go_wp2_with (go_at_call 182;refine (widthFits_any _ _).mono ?_;rintro e w' ⟨rfl,rfl⟩)
     go_ret
     exact⟨rfl,rfl⟩
   ·rw[show (256:Int) ^ (2:Int).toNat=65536 from by decide]
    clear hx' HX
    by_cases h:65536<=v
    ·have h2:(v / 65536 != 0)=true:=by simp;omega
     rw[if_pos h]
     go_enter Tryz.func219,Tryz.ntmps219
     go_wp2_with (go_at_call 182;refine (widthFits_any _ _).mono ?_;rintro e w' ⟨rfl,rfl⟩)
     go_ret
     exact⟨rfl,rfl⟩
    ·have h2:(v / 65536 != 0)=false:=by simp;omega
     rw[if_neg h]
     go_enter Tryz.func219,Tryz.ntmps219
     go_wp2_with (go_at_call 182;refine (widthFits_any _ _).mono ?_;rintro e w' ⟨rfl,rfl⟩)
     go_ret
     exact⟨rfl,rfl⟩
   ·rw[show (256:Int) ^ (3:Int).toNat=16777216 from by decide]
    clear hx' HX
    by_cases h:16777216<=v
    ·have h2:(v / 16777216 != 0)=true:=by simp;omega
     rw[if_pos h]
     go_enter Tryz.func219,Tryz.ntmps219
     go_wp2_with (go_at_call 182;refine (widthFits_any _ _).mono ?_;rintro e w' ⟨rfl,rfl⟩)
     go_ret
     exact⟨rfl,rfl⟩
    ·have h2:(v / 16777216 != 0)=false:=by simp;omega
     rw[if_neg h]
     go_enter Tryz.func219,Tryz.ntmps219
     go_wp2_with (go_at_call 182;refine (widthFits_any _ _).mono ?_;rintro e w' ⟨rfl,rfl⟩)
     go_ret
     exact⟨rfl,rfl⟩
   ·rw[show (256:Int) ^ (4:Int).toNat=4294967296 from by decide]
    clear hx' HX
    by_cases h:4294967296<=v
    ·have h2:(v / 4294967296 != 0)=true:=by simp;omega
     rw[if_pos h]
     go_enter Tryz.func219,Tryz.ntmps219
     go_wp2_with (go_at_call 182;refine (widthFits_any _ _).mono ?_;rintro e w' ⟨rfl,rfl⟩)
     go_ret
     exact⟨rfl,rfl⟩
    ·have h2:(v / 4294967296 != 0)=false:=by simp;omega
     rw[if_neg h]
     go_enter Tryz.func219,Tryz.ntmps219
     go_wp2_with (go_at_call 182;refine (widthFits_any _ _).mono ?_;rintro e w' ⟨rfl,rfl⟩)
     go_ret
     exact⟨rfl,rfl⟩
   ·rw[show (256:Int) ^ (5:Int).toNat=1099511627776 from by decide]
    clear hx' HX
    by_cases h:1099511627776<=v
    ·have h2:(v / 1099511627776 != 0)=true:=by simp;omega
     rw[if_pos h]
     go_enter Tryz.func219,Tryz.ntmps219
     go_wp2_with (go_at_call 182;refine (widthFits_any _ _).mono ?_;rintro e w' ⟨rfl,rfl⟩)
     go_ret
     exact⟨rfl,rfl⟩
    ·have h2:(v / 1099511627776 != 0)=false:=by simp;omega
     rw[if_neg h]
     go_enter Tryz.func219,Tryz.ntmps219
     go_wp2_with (go_at_call 182;refine (widthFits_any _ _).mono ?_;rintro e w' ⟨rfl,rfl⟩)
     go_ret
     exact⟨rfl,rfl⟩
   ·rw[show (256:Int) ^ (6:Int).toNat=281474976710656 from by decide]
    clear hx' HX
    by_cases h:281474976710656<=v
    ·have h2:(v / 281474976710656 != 0)=true:=by simp;omega
     rw[if_pos h]
     go_enter Tryz.func219,Tryz.ntmps219
     go_wp2_with (go_at_call 182;refine (widthFits_any _ _).mono ?_;rintro e w' ⟨rfl,rfl⟩)
     go_ret
     exact⟨rfl,rfl⟩
    ·have h2:(v / 281474976710656 != 0)=false:=by simp;omega
     rw[if_neg h]
     go_enter Tryz.func219,Tryz.ntmps219
     go_wp2_with (go_at_call 182;refine (widthFits_any _ _).mono ?_;rintro e w' ⟨rfl,rfl⟩)
     go_ret
     exact⟨rfl,rfl⟩
   ·rw[show (256:Int) ^ (7:Int).toNat=72057594037927936 from by decide]
    clear hx' HX
    by_cases h:72057594037927936<=v
    ·have h2:(v / 72057594037927936 != 0)=true:=by simp;omega
     rw[if_pos h]
     go_enter Tryz.func219,Tryz.ntmps219
     go_wp2_with (go_at_call 182;refine (widthFits_any _ _).mono ?_;rintro e w' ⟨rfl,rfl⟩)
     go_ret
     exact⟨rfl,rfl⟩
    ·have h2:(v / 72057594037927936 != 0)=false:=by simp;omega
     rw[if_neg h]
     go_enter Tryz.func219,Tryz.ntmps219
     go_wp2_with (go_at_call 182;refine (widthFits_any _ _).mono ?_;rintro e w' ⟨rfl,rfl⟩)
     go_ret
     exact⟨rfl,rfl⟩
   ·rw[show (256:Int) ^ (8:Int).toNat=18446744073709551616 from by decide]
    clear hx' HX
    have h2:(v / 18446744073709551616 != 0)=false:=by simp;omega
    rw[if_neg (by omega)]
    go_enter Tryz.func219,Tryz.ntmps219
    go_wp2_with (go_at_call 182;refine (widthFits_any _ _).mono ?_;rintro e w' ⟨rfl,rfl⟩)
    go_ret
    exact⟨rfl,rfl⟩
 ·have hx2:wfB x=false:=by simpa using hx
  have e:chk x v=10:=by simp[chk,hx2]
  rw[e]
  clear e hx
  go_enter Tryz.func219,Tryz.ntmps219
  go_wp2_with (go_at_call 182;refine (widthFits_any _ _).mono ?_;rintro e w' ⟨rfl,rfl⟩)
  go_ret
  exact⟨rfl,rfl⟩
open Go.RowKit
def packZ (fs:List (Int×Int)):List Int:=fs.flatMap fun f=>Pl.dig f.2 f.1.toNat
def okF (fs:List (Int×Int)):Prop:=∀f∈fs,chk f.1 f.2=0
theorem chk_zero{x v:Int}(h:chk x v=0):1<=x/\x<=8/\0<=v/\v<256 ^ x.toNat:=by
 unfold chk at h
 split at h
 ·cases h
 ·split at h
  ·cases h
  ·rename_i h1 h2
   simp[wfB]at h1
   simp at h2
   omega
theorem packZ_snoc(fs:List (Int×Int))(x v:Int):packZ (fs++[(x,v)])=packZ fs++Pl.dig v x.toNat:=by simp[packZ]
theorem takeF{fs:List (Int×Int)}(h:k<fs.length):fs.take (k+1)=fs.take k++[fs.getD k (0,0)]:=by
 rw[List.take_succ_eq_append_getElem h];simp[h]
theorem okF_le{fs:List (Int×Int)}(h:okF fs):(packZ fs).length<=8 * fs.length:=by
 induction fs with
 | nil=>simp[packZ]
 | cons f r ih=>
  have h1:=chk_zero (h f (by simp))
  have h2:=ih fun g hg=>h g (by simp[hg])
  simp only[packZ,List.flatMap_cons,List.length_append,Pl.length_dig,List.length_cons]at *
  omega
theorem isB_packZ(fs:List (Int×Int)):Pl.isB (packZ fs):=by
 induction fs with
 | nil=>exact Pl.isB_nil
 | cons f r ih=>simp only[packZ,List.flatMap_cons];exact Pl.isB_append.2 ⟨Pl.isB_dig _ _,ih⟩
theorem packZ_part(fs:List (Int×Int))(k:Nat)(h:k<fs.length) :
  (packZ (fs.take (k+1))).length=(packZ (fs.take k)).length+(fs.getD k (0,0)).1.toNat/\(packZ (fs.take k)).length+(fs.getD k (0,0)).1.toNat<=(packZ fs).length /\
  splice (packZ (fs.take k)++zeros ((packZ fs).length-(packZ (fs.take k)).length)) (packZ (fs.take k)).length (Pl.dig (fs.getD k (0,0)).2 (fs.getD k (0,0)).1.toNat) =
   packZ (fs.take (k+1))++zeros ((packZ fs).length-(packZ (fs.take (k+1))).length):=by
 generalize hf:fs.getD k (0,0)=f
 obtain⟨x,v⟩:=f
 have h1:packZ (fs.take (k+1))=packZ (fs.take k)++Pl.dig v x.toNat:=by rw[takeF h,hf,packZ_snoc]
 have h2:packZ fs=packZ (fs.take (k+1))++packZ (fs.drop (k+1)):=by
  unfold packZ
  rw[<- List.flatMap_append,List.take_append_drop]
 have h3:(packZ fs).length=(packZ (fs.take k)).length+x.toNat+(packZ (fs.drop (k+1))).length:=by rw[h2,h1];simp[Pl.length_dig];omega
 refine⟨by rw[h1];simp[Pl.length_dig],by show _+x.toNat<=_;omega,?_⟩
 rw[h1,h3]
 generalize packZ (fs.take k)=A
 have e:A.length+x.toNat+(packZ (fs.drop (k+1))).length-A.length=x.toNat+(packZ (fs.drop (k+1))).length:=by omega
 have e2:A.length+x.toNat+(packZ (fs.drop (k+1))).length-(A++Pl.dig v x.toNat).length=(packZ (fs.drop (k+1))).length:=by rw[List.length_append,Pl.length_dig];omega
 rw[e,e2,zeros_add]
 unfold splice
 rw[List.take_left,Pl.length_dig,List.drop_append,List.drop_of_length_le (by omega),List.nil_append,show A.length+x.toNat-A.length=(zeros x.toNat).length by rw[length_zeros];omega,List.drop_left,List.append_assoc]
def RdF (B:Nat) (w:World) (a:Option Addr) (m:Nat) (fs:List (Int×Int)):Prop :=
 fs.length=m/\(∀f∈fs,-9223372036854775808<=f.2/\f.2<=9223372036854775807)/\(m=0\/∃b off,a=some ⟨b,off,none⟩/\b<B /\
  ∀t,t<m->w.cell? ⟨b,off+t * 2,none⟩=some (.int .i64 (fs.getD t (0,0)).1)/\w.cell? ⟨b,off+t * 2+1,none⟩=some (.int .i64 (fs.getD t (0,0)).2))
theorem Pack_ok(a:Option Addr)(m c:Nat)(fs:List (Int×Int))(w:World)(hm:m<=16777216)(hR:RdF w.heap.size w a m fs)(hok:okF fs) :
  Calls Tryz.prog 181 #[.slice a m c] w fun e w'=>∃g,e=.returned (.tuple #[.slice (some ⟨g,0,none⟩) (packZ fs).length (packZ fs).length,.int .i64 0])/\w.heap.size<=g/\Blk .u8 5 w' g (packZ fs)/\Below w.heap.size w w':=by
 obtain⟨hl,hv,h3⟩:=hR
 go_enter Tryz.func181,Tryz.ntmps181
 go_wp2
 go_loopw [4,14] (fun s i wr=>∃k:Nat,k<=m/\i=.int .i64 (k:Int)/\s=.int .i64 ((packZ (fs.take k)).length:Int)/\Below w.heap.size w wr) (fun _ i _=>m-(intOf i).toNat)
 case atStart=>exact⟨0,Nat.zero_le _,rfl,rfl,Below.refl _ _⟩
 case round=>
  obtain⟨k,hk,rfl,rfl,hbr⟩:=hrel
  by_cases hkm:k<m
  ·obtain⟨b,off,rfl,hb,hc⟩:=h3.resolve_left (by omega)
   obtain⟨x,hx⟩:∃x,x=(fs.getD k (0,0)).1:=⟨_,rfl⟩
   obtain⟨v,hv'⟩:∃v,v=(fs.getD k (0,0)).2:=⟨_,rfl⟩
   have hmem:fs.getD k (0,0)∈fs:=by
    have:k<fs.length:=by omega
    simp[this]
   have hck:=hok _ hmem
   have hvb:=hv _ hmem
   obtain⟨hcx,hcv⟩:=hc k hkm
   rw[<- hx]at hcx hck
   rw[<- hv']at hcv hck hvb
   have hcx':=(hbr.cell (p:=⟨b,off+k * 2,none⟩) (by exact hb)).trans hcx
   have hcv':=(hbr.cell (p:=⟨b,off+k * 2+1,none⟩) (by exact hb)).trans hcv
   obtain⟨x1,x2,_,_⟩:=chk_zero hck
   have hle:=okF_le (fs:=fs.take k) (fun f hf=>hok f (List.mem_of_mem_take hf))
   have hnx:(packZ (fs.take (k+1))).length=(packZ (fs.take k)).length+x.toNat:=by
    rw[takeF (by omega),show fs.getD k (0,0)=(x,v) from by rw[hx,hv'],packZ_snoc,List.length_append,Pl.length_dig]
   have HN:=hid hnx
   rw[List.length_take]at hle
   have hle2:(packZ (fs.take k)).length<=134217728:=by omega
   clear hle hnx hx hv' hmem hcx hcv
   generalize (packZ (fs.take k)).length=pl at *
   go_wp2_with fail
   refine (checkField_any x v _ hvb.1 hvb.2).mono ?_
   rintro e w1 ⟨rfl,rfl⟩
   rw[hck]
   go_wp2
   go_roundw
   case rel=>exact⟨k+1,by omega,by go_num,by rw[HN.out];congr 1;omega,(hbr.alloc hbr.size _).alloc (by have:=hbr.size;simp;omega) _⟩
   case measure=>simp[intOf];omega
  ·have e:fs.take k=fs:=List.take_of_length_le (by omega)
   rw[e]
   have hle:=okF_le hok
   have hle2:(packZ fs).length<=134217728:=by omega
   have hmk:=make_u8 (packZ fs).length (by omega)
   have hB0:=Blk.new (k:=.u8) (e:=5) wr (zeros (packZ fs).length)
   have HB0:=hid hB0
   clear e hle hB0
   have hg:w.heap.size<=wr.heap.size:=hbr.size
   have hb0:Below w.heap.size w (wr.alloc (.cells ((zeros (packZ fs).length).map (Value.int .u8)).toArray 5)):=hbr.alloc hbr.size _
   have Hb0:=hid hb0
   clear hbr hb0
   go_wp2
   generalize wr.heap.size=g at *
   go_loopw [9,32] (fun s i wt=>∃k:Nat,k<=m/\i=.int .i64 (k:Int)/\s=.int .i64 ((packZ (fs.take k)).length:Int)/\Blk .u8 5 wt g (packZ (fs.take k)++zeros ((packZ fs).length-(packZ (fs.take k)).length))/\Below w.heap.size w wt) (fun _ i _=>m-(intOf i).toNat)
   case atStart=>exact⟨0,Nat.zero_le _,rfl,rfl,by rw[List.take_zero];exact HB0.out,Hb0.out⟩
   case round=>
    clear HB0 Hb0 hmk hkm
    obtain⟨k,hk,rfl,rfl,hBk,hbt⟩:=hrel
    by_cases hkm:k<m
    ·obtain⟨b,off,rfl,hb,hc⟩:=h3.resolve_left (by omega)
     obtain⟨x,hx⟩:∃x,x=(fs.getD k (0,0)).1:=⟨_,rfl⟩
     obtain⟨v,hv'⟩:∃v,v=(fs.getD k (0,0)).2:=⟨_,rfl⟩
     have hmem:fs.getD k (0,0)∈fs:=by
      have:k<fs.length:=by omega
      simp[this]
     have hck:=hok _ hmem
     have hvb:=hv _ hmem
     obtain⟨hcx,hcv⟩:=hc k hkm
     rw[<- hx]at hcx hck
     rw[<- hv']at hcv hck hvb
     obtain⟨x1,x2,v1,v2⟩:=chk_zero hck
     obtain⟨X,rfl⟩:=Int.eq_ofNat_of_zero_le (show 0<=x by omega)
     have hcx':=(hbt.cell (p:=⟨b,off+k * 2,none⟩) (by exact hb)).trans hcx
     have hcv':=(hbt.cell (p:=⟨b,off+k * 2+1,none⟩) (by exact hb)).trans hcv
     have hz:=packZ_part fs k (by omega)
     rw[show fs.getD k (0,0)=((X:Int),v) from by rw[hx,hv']]at hz
     obtain⟨z1,z2,z3⟩:=hz
     simp only[Int.toNat_natCast]at z1 z2 z3
     have HN:=hid z1
     have HZ:=hid z3
     have HB:=hid hBk
     have hlen:(packZ (fs.take k)++zeros ((packZ fs).length-(packZ (fs.take k)).length)).length=(packZ fs).length:=by rw[List.length_append,length_zeros];omega
     have HL:=hid hlen
     obtain⟨v3,v4⟩:=hvb
     clear hx hv' hmem hcx hcv hBk z1 z3 hlen hck v2
     generalize hpl:(packZ (fs.take k)).length=pl at *
     generalize hn:(packZ fs).length=n at *
     clear hpl hn
     have hne:¬n=pl:=by omega
     obtain⟨P,hP⟩:∃P,P=pl+X:=⟨_,rfl⟩
     have ew:IntKind.i64.wrap ((pl:Int)+(X:Int))=(P:Int):=by rw[IntKind.wrap_i64];omega
     have hP1:pl<=P:=by omega
     have hP2:(P:Int)<=(n:Int):=by omega
     have hP3:Hid (P=pl+X):=hP
     clear hP
     have hB2:Blk .u8 5 (wr.alloc (.cells #[.int .i64 (X:Int),.int .i64 v] 204)).drew g (packZ (fs.take k)++zeros (n-pl)):=(HB.out.alloc _).drew
     have hput:=putNumber_any g pl X (n-pl) v _ _ (by omega) v1 (by omega) hB2 (by rw[HL.out];omega)
     rw[HZ.out]at hput
     have HP:Hid (Calls Tryz.prog 220 #[.slice (some ⟨g,pl,none⟩) (P-pl) (n-pl),.int .u64 (IntKind.u64.wrap v)] (wr.alloc (.cells #[.int .i64 (X:Int),.int .i64 v] 204)).drew fun e w'=>e=.returned (.tuple #[]) /\
       w'.heap.size=(wr.alloc (.cells #[.int .i64 (X:Int),.int .i64 v] 204)).drew.heap.size/\(wr.alloc (.cells #[.int .i64 (X:Int),.int .i64 v] 204)).drew.grownBy w' (some g)/\Blk .u8 5 w' g (packZ (fs.take (k+1))++zeros (n-(packZ (fs.take (k+1))).length))):=by
      show Calls _ _ _ _ _
      rw[show P-pl=X from by rw[hP3.out];omega,show IntKind.u64.wrap v=v from by rw[IntKind.wrap_u64];omega]
      exact hput
     clear hput hB2
     have hbt2:Below w.heap.size w (wr.alloc (.cells #[.int .i64 (X:Int),.int .i64 v] 204)).drew:=(hbt.alloc hbt.size _).drew
     have hgne:some wr.heap.size≠some g:=by intro h;have h1:=HB.out.lt;have h2:=Option.some.inj h;omega
     go_wp2_with fail
     go_region_with (go_at_call 220;refine Calls.mono HP.out ?_;rintro e w1 ⟨rfl,hs1,hg1,hB1⟩;(have hb1:Below w.heap.size w w1:=hbt2.grown hg1 hbt2.size (fun k h=>by cases h;exact hg);have hcw:w1.cell? ⟨wr.heap.size,0,none⟩=some (.int .i64 (X:Int)):=hg1.cell (by simp) hgne;clear hs1 hg1))
     all_goals have HB1:=hid hB1
     all_goals clear hB1
     all_goals go_wp2
     all_goals
      go_roundw
      case rel=>exact⟨k+1,by omega,by go_num,by rw[HN.out,hP3.out],HB1.out,by assumption⟩
      case measure=>simp[intOf];omega
    ·have e:fs.take k=fs:=List.take_of_length_le (by omega)
     rw[e,Nat.sub_self]at hBk
     rw[show packZ fs++zeros 0=packZ fs from by simp[zeros]]at hBk
     have HB:=hid hBk
     clear hBk
     go_wp2
     go_ret2
     exact⟨g,rfl,hg,HB.out,hbt⟩
open Go.RowKit
def sumW (ws:List Int):Nat:=(ws.map Int.toNat).sum
def valK (zs ws:List Int) (k:Nat):Int:=Pl.num ((zs.drop (sumW (ws.take k))).take (ws.getD k 0).toNat)
def vals (zs ws:List Int):Nat->List Int
 | 0=>[]
 | k+1=>vals zs ws k++[valK zs ws k]
def okW (ws:List Int):Prop:=∀x∈ws,wfB x=true
theorem wf_bd{x:Int}(h:wfB x=true):1<=x/\x<=8:=by simpa [wfB] using h
theorem length_vals(zs ws:List Int)(k:Nat):(vals zs ws k).length=k:=by
 induction k with
 | zero=>rfl
 | succ k ih=>simp[vals,ih]
theorem sumW_snoc(h:k<ws.length):sumW (ws.take (k+1))=sumW (ws.take k)+(ws.getD k 0).toNat:=by
 rw[take_snoc h,sumW,sumW,List.map_append,List.sum_append];simp
theorem sumW_part(h:k<ws.length):sumW (ws.take k)+(ws.getD k 0).toNat<=sumW ws:=by
 rw[<- sumW_snoc h]
 conv=>rhs;rw[<- List.take_append_drop (k+1) ws]
 rw[sumW,sumW,List.map_append,List.sum_append];omega
theorem sumW_le(h:okW ws):sumW ws<=8 * ws.length:=by
 induction ws with
 | nil=>simp[sumW]
 | cons x r ih=>
  have h1:=wf_bd (h x (by simp))
  have h2:=ih fun g hg=>h g (by simp[hg])
  simp only[sumW,List.map_cons,List.sum_cons,List.length_cons]at *
  omega
theorem Unpack_ok(a a2:Option Addr)(n c m c2:Nat)(zs ws:List Int)(w:World)(hm:m<=16777216)(hcap:n<=c)(hR:Rd w.heap.size w a n zs)(hR2:RdI w.heap.size w a2 m ws)(hok:okW ws)(hn:n=sumW ws)(hv:∀k,k<m->valK zs ws k<=9223372036854775807) :
  Calls Tryz.prog 143 #[.slice a n c,.slice a2 m c2] w fun e w'=>∃g,e=.returned (.tuple #[.slice (some ⟨g,0,none⟩) m m,.int .i64 0])/\w.heap.size<=g/\Blk .i64 3 w' g (vals zs ws m)/\Below w.heap.size w w':=by
 obtain⟨hl,h3⟩:=hR2
 have HN:=hid hn
 have hle:=sumW_le hok
 have hn2:n<=134217728:=by omega
 clear hle hn
 go_enter Tryz.func143,Tryz.ntmps143
 go_wp2
 go_loop [6,16] (fun s i=>∃k:Nat,k<=m/\i=.int .i64 (k:Int)/\s=.int .i64 (sumW (ws.take k):Int)) (fun _ i=>m-(intOf i).toNat)
 case atStart=>exact⟨0,Nat.zero_le _,rfl,rfl⟩
 case round=>
  obtain⟨k,hk,rfl,rfl⟩:=hrel
  by_cases hkm:k<m
  ·obtain⟨b,off,rfl,hb,hc⟩:=h3.resolve_left (by omega)
   obtain⟨x,hx⟩:∃x,x=ws.getD k 0:=⟨_,rfl⟩
   have hmem:ws.getD k 0∈ws:=by
    have:k<ws.length:=by omega
    simp[this]
   have hck:=hok _ hmem
   have hcx:=hc k hkm
   have hs:=sumW_snoc (ws:=ws) (k:=k) (by omega)
   have hle:=sumW_le (ws:=ws.take k) (fun f hf=>hok f (List.mem_of_mem_take hf))
   rw[List.length_take]at hle
   rw[<- hx]at hcx hck hs
   have HS:=hid hs
   obtain⟨x1,x2⟩:=wf_bd hck
   have hle2:sumW (ws.take k)<=134217728:=by omega
   clear hs hle hx hmem hc
   generalize sumW (ws.take k)=pl at *
   go_wp2_with (go_at_call 182;refine (widthFits_any x _).mono ?_;rintro e w1 ⟨rfl,rfl⟩)
   go_round
   case rel=>exact⟨k+1,by omega,by go_num,by rw[HS.out];congr 1;omega⟩
   case measure=>simp[intOf];omega
  ·have e:ws.take k=ws:=List.take_of_length_le (by omega)
   rw[e,<- HN.out]
   have hmk:=make_i64 m (by omega)
   have hB0:=hid (Blk.new (k:=.i64) (e:=3) w (zeros m))
   have hb0:Below w.heap.size w (w.alloc (.cells ((zeros m).map (Value.int .i64)).toArray 3)):=(Below.refl _ _).alloc (Nat.le_refl _) _
   have Hb0:=hid hb0
   clear e hb0
   go_wp2
   clear hkm hk
   go_loopw [10,36] (fun s i wt=>∃k:Nat,k<=m/\i=.int .i64 (k:Int)/\s=.int .i64 (sumW (ws.take k):Int)/\Blk .i64 3 wt w.heap.size (vals zs ws k++zeros (m-k))/\Below w.heap.size w wt) (fun _ i _=>m-(intOf i).toNat)
   case atStart=>exact⟨0,Nat.zero_le _,rfl,rfl,hB0.out,Hb0.out⟩
   case round=>
    obtain⟨k,hk,rfl,rfl,hBk,hbt⟩:=hrel
    have HB:=hid hBk
    clear hBk
    by_cases hkm:k<m
    ·obtain⟨b2,off2,rfl,hb2,hc2⟩:=h3.resolve_left (by omega)
     have hmem:ws.getD k 0∈ws:=by
      have:k<ws.length:=by omega
      simp[this]
     have hck:=hok _ hmem
     obtain⟨x1,x2⟩:=wf_bd hck
     obtain⟨X,hX⟩:=Int.eq_ofNat_of_zero_le (show 0<=ws.getD k 0 by omega)
     have hcx:=(hbt.cell (p:=⟨b2,off2+k,none⟩) (by exact hb2)).trans (hc2 k hkm)
     have hs:=sumW_snoc (ws:=ws) (k:=k) (by omega)
     have hp:=sumW_part (ws:=ws) (k:=k) (by omega)
     have hvk:=hv k hkm
     have hv0:0<=valK zs ws k:=Pl.num_nonneg (Pl.isB_take (Pl.isB_drop hR.2.1 _) _)
     obtain⟨b,off,rfl,hb,hc⟩:=hR.2.2.resolve_left (by rw[HN.out];omega)
     rw[hX]at hcx hs hp x1 x2
     rw[<- HN.out]at hp
     simp only[Int.toNat_natCast]at hs hp
     have hg:=getNumber_any b (off+sumW (ws.take k)) X (c-sumW (ws.take k)) ((zs.drop (sumW (ws.take k))).take X) wr (by omega) (by rw[List.length_take,List.length_drop,hR.1];omega) (Pl.isB_take (Pl.isB_drop hR.2.1 _) _)
      (fun t ht=>(hbt.cell (by exact hb)).trans (part_cells hc _ _ hp t ht))
     have hval:Pl.num ((zs.drop (sumW (ws.take k))).take X)=valK zs ws k:=by unfold valK;rw[hX];rfl
     rw[hval]at hg
     have HG:=hid hg
     have HS:=hid hs
     have hlen:(vals zs ws k++zeros (m-k)).length=m:=by rw[List.length_append,length_zeros,length_vals];omega
     have HL:=hid hlen
     have hck2:=HB.out.cell k (by omega)
     have hfk:=HB.out.frozen k
     generalize (vals zs ws k++zeros (m-k)).getD k 0=old at *
     clear hval hs hg hck hmem hX hc2 hc hv hlen
     generalize sumW (ws.take k)=pl at *
     generalize hVV:valK zs ws k=V at *
     have HV:=hid hVV
     clear hVV
     have hne:¬c=pl:=by omega
     have hgt:¬9223372036854775807<V:=by omega
     go_wp2_with fail
     refine Calls.mono HG.out ?_
     rintro e w1 ⟨rfl,rfl⟩
     go_wp2
     go_roundw
     case rel=>
      refine⟨k+1,by omega,by go_num,by rw[HS.out];rfl,?_,hbt.setCell (Nat.le_refl _) _⟩
      have h:=HB.out.set k V
      rw[show (vals zs ws k++zeros (m-k)).set k V=vals zs ws (k+1)++zeros (m-(k+1)) from ?_]at h
      ·exact h
      ·rw[vals,HV.out,List.set_append_right _ _ (by rw[length_vals];exact Nat.le_refl _),length_vals,Nat.sub_self,show m-k=(m-(k+1))+1 by omega]
       simp[zeros,List.replicate_succ]
     case measure=>simp[intOf];omega
    ·have e:k=m:=by omega
     subst e
     rw[Nat.sub_self,show vals zs ws k++zeros 0=vals zs ws k from by simp[zeros]]at HB
     go_wp2
     go_ret2
     exact⟨w.heap.size,rfl,Nat.le_refl _,HB.out,hbt⟩
open Go.RowKit
def perr (E:Int):Value:=.tuple #[.slice none 0 0,.int .i64 E]
theorem Unpack_size(a a2:Option Addr)(n c m c2:Nat)(ws:List Int)(w:World)(hm:m<=16777216)(hR2:RdI w.heap.size w a2 m ws)(hok:okW ws)(hbad:n≠sumW ws) :
  Calls Tryz.prog 143 #[.slice a n c,.slice a2 m c2] w fun e w'=>e=.returned (perr 12)/\w'=w:=by
 obtain⟨hl,h3⟩:=hR2
 go_enter Tryz.func143,Tryz.ntmps143
 go_wp2
 go_loop [6,16] (fun s i=>∃k:Nat,k<=m/\i=.int .i64 (k:Int)/\s=.int .i64 (sumW (ws.take k):Int)) (fun _ i=>m-(intOf i).toNat)
 case atStart=>exact⟨0,Nat.zero_le _,rfl,rfl⟩
 case round=>
  obtain⟨k,hk,rfl,rfl⟩:=hrel
  by_cases hkm:k<m
  ·obtain⟨b,off,rfl,hb,hc⟩:=h3.resolve_left (by omega)
   obtain⟨x,hx⟩:∃x,x=ws.getD k 0:=⟨_,rfl⟩
   have hmem:ws.getD k 0∈ws:=by
    have:k<ws.length:=by omega
    simp[this]
   have hck:=hok _ hmem
   have hcx:=hc k hkm
   have hs:=sumW_snoc (ws:=ws) (k:=k) (by omega)
   have hle:=sumW_le (ws:=ws.take k) (fun f hf=>hok f (List.mem_of_mem_take hf))
   rw[List.length_take]at hle
   rw[<- hx]at hcx hck hs
   have HS:=hid hs
   obtain⟨x1,x2⟩:=wf_bd hck
   have hle2:sumW (ws.take k)<=134217728:=by omega
   clear hs hle hx hmem hc hbad
   generalize sumW (ws.take k)=pl at *
   go_wp2_with (go_at_call 182;refine (widthFits_any x _).mono ?_;rintro e w1 ⟨rfl,rfl⟩)
   go_round
   case rel=>exact⟨k+1,by omega,by go_num,by rw[HS.out];congr 1;omega⟩
   case measure=>simp[intOf];omega
  ·have e:ws.take k=ws:=List.take_of_length_le (by omega)
   rw[e]
   have hne:((n:Int) != (sumW ws:Int))=true:=by simp;omega
   clear e
   generalize sumW ws=T at *
   go_wp2
   go_ret2
   exact⟨rfl,rfl⟩
theorem Unpack_value(a a2:Option Addr)(n c m c2:Nat)(zs ws:List Int)(w:World)(hm:m<=16777216)(hcap:n<=c)(hR:Rd w.heap.size w a n zs)(hR2:RdI w.heap.size w a2 m ws)(hok:okW ws)(hn:n=sumW ws)(hbad:∃k,k<m/\9223372036854775807<valK zs ws k) :
  Calls Tryz.prog 143 #[.slice a n c,.slice a2 m c2] w fun e w'=>e=.returned (perr 11)/\Below w.heap.size w w':=by
 obtain⟨hl,h3⟩:=hR2
 have HN:=hid hn
 have HBAD:=hid hbad
 have hle:=sumW_le hok
 have hn2:n<=134217728:=by omega
 clear hle hn hbad
 go_enter Tryz.func143,Tryz.ntmps143
 go_wp2
 go_loop [6,16] (fun s i=>∃k:Nat,k<=m/\i=.int .i64 (k:Int)/\s=.int .i64 (sumW (ws.take k):Int)) (fun _ i=>m-(intOf i).toNat)
 case atStart=>exact⟨0,Nat.zero_le _,rfl,rfl⟩
 case round=>
  obtain⟨k,hk,rfl,rfl⟩:=hrel
  by_cases hkm:k<m
  ·obtain⟨b,off,rfl,hb,hc⟩:=h3.resolve_left (by omega)
   obtain⟨x,hx⟩:∃x,x=ws.getD k 0:=⟨_,rfl⟩
   have hmem:ws.getD k 0∈ws:=by
    have:k<ws.length:=by omega
    simp[this]
   have hck:=hok _ hmem
   have hcx:=hc k hkm
   have hs:=sumW_snoc (ws:=ws) (k:=k) (by omega)
   have hle:=sumW_le (ws:=ws.take k) (fun f hf=>hok f (List.mem_of_mem_take hf))
   rw[List.length_take]at hle
   rw[<- hx]at hcx hck hs
   have HS:=hid hs
   obtain⟨x1,x2⟩:=wf_bd hck
   have hle2:sumW (ws.take k)<=134217728:=by omega
   clear hs hle hx hmem hc
   generalize sumW (ws.take k)=pl at *
   go_wp2_with (go_at_call 182;refine (widthFits_any x _).mono ?_;rintro e w1 ⟨rfl,rfl⟩)
   go_round
   case rel=>exact⟨k+1,by omega,by go_num,by rw[HS.out];congr 1;omega⟩
   case measure=>simp[intOf];omega
  ·have e:ws.take k=ws:=List.take_of_length_le (by omega)
   rw[e,<- HN.out]
   have hmk:=make_i64 m (by omega)
   have hB0:=hid (Blk.new (k:=.i64) (e:=3) w (zeros m))
   have hb0:Below w.heap.size w (w.alloc (.cells ((zeros m).map (Value.int .i64)).toArray 3)):=(Below.refl _ _).alloc (Nat.le_refl _) _
   have Hb0:=hid hb0
   clear e hb0
   go_wp2
   clear hkm hk
   go_loopw [10,36] (fun s i wt=>∃(k:Nat) (ys:List Int),k<=m/\i=.int .i64 (k:Int)/\s=.int .i64 (sumW (ws.take k):Int)/\Blk .i64 3 wt w.heap.size ys/\ys.length=m/\Below w.heap.size w wt/\(∀j,j<k->valK zs ws j<=9223372036854775807)) (fun _ i _=>m-(intOf i).toNat)
   case atStart=>exact⟨0,zeros m,Nat.zero_le _,rfl,rfl,hB0.out,length_zeros m,Hb0.out,fun j h=>by omega⟩
   case round=>
    obtain⟨k,ys,hk,rfl,rfl,hBk,hyl,hbt,hvs⟩:=hrel
    have HB:=hid hBk
    have HV:=hid hvs
    clear hBk hvs
    by_cases hkm:k<m
    ·obtain⟨b2,off2,rfl,hb2,hc2⟩:=h3.resolve_left (by omega)
     have hmem:ws.getD k 0∈ws:=by
      have:k<ws.length:=by omega
      simp[this]
     have hck:=hok _ hmem
     obtain⟨x1,x2⟩:=wf_bd hck
     obtain⟨X,hX⟩:=Int.eq_ofNat_of_zero_le (show 0<=ws.getD k 0 by omega)
     have hcx:=(hbt.cell (p:=⟨b2,off2+k,none⟩) (by exact hb2)).trans (hc2 k hkm)
     have hs:=sumW_snoc (ws:=ws) (k:=k) (by omega)
     have hp:=sumW_part (ws:=ws) (k:=k) (by omega)
     have hv0:0<=valK zs ws k:=Pl.num_nonneg (Pl.isB_take (Pl.isB_drop hR.2.1 _) _)
     obtain⟨b,off,rfl,hb,hc⟩:=hR.2.2.resolve_left (by rw[HN.out];omega)
     rw[hX]at hcx hs hp x1 x2
     rw[<- HN.out]at hp
     simp only[Int.toNat_natCast]at hs hp
     have hg:=getNumber_any b (off+sumW (ws.take k)) X (c-sumW (ws.take k)) ((zs.drop (sumW (ws.take k))).take X) wr (by omega) (by rw[List.length_take,List.length_drop,hR.1];omega) (Pl.isB_take (Pl.isB_drop hR.2.1 _) _)
      (fun t ht=>(hbt.cell (by exact hb)).trans (part_cells hc _ _ hp t ht))
     have hval:Pl.num ((zs.drop (sumW (ws.take k))).take X)=valK zs ws k:=by unfold valK;rw[hX];rfl
     rw[hval]at hg
     have HG:=hid hg
     have HS:=hid hs
     have HL:=hid hyl
     have hck2:=HB.out.cell k (by omega)
     have hfk:=HB.out.frozen k
     generalize ys.getD k 0=old at *
     clear hval hs hg hck hmem hX hc2 hc hyl
     generalize sumW (ws.take k)=pl at *
     generalize hVV:valK zs ws k=V at *
     have HVK:=hid hVV
     clear hVV
     have hne:¬c=pl:=by omega
     by_cases hgt:9223372036854775807<V
     ·go_wp2_with fail
      refine Calls.mono HG.out ?_
      rintro e w1 ⟨rfl,rfl⟩
      go_wp2
      go_ret2
      exact⟨rfl,hbt⟩
     ·go_wp2_with fail
      refine Calls.mono HG.out ?_
      rintro e w1 ⟨rfl,rfl⟩
      go_wp2
      go_roundw
      case rel=>
       refine⟨k+1,ys.set k V,by omega,by go_num,by rw[HS.out];rfl,HB.out.set k V,by rw[List.length_set];exact HL.out,hbt.setCell (Nat.le_refl _) _,fun j hj=>?_⟩
       by_cases e:j=k
       ·subst e;rw[HVK.out];omega
       ·exact HV.out j (by omega)
      case measure=>simp[intOf];omega
    ·obtain⟨j,hj,hbig⟩:=HBAD.out
     have:=HV.out j (by omega)
     omega
def OwnI (w:World) (g n cap:Nat) (zs:List Int):Prop:=w.ownsRow g 3 1 (.slice (some ⟨g,0,none⟩) n cap) n (zs.map (Value.int .i64))
theorem OwnI.len{g cap:Nat}(h:OwnI w g n cap zs):zs.length=n:=by simpa using h.1
open Go.RowKit
theorem packed_any(a:Option Addr)(m c:Nat)(fs:List (Int×Int))(w:World)(hm:m<=16777216)(hR:RdF w.heap.size w a m fs)(hok:okF fs) :
  Calls Tryz.prog 179 #[.slice a m c] w fun e w'=>∃g,e=.returned (.slice (some ⟨g,0,none⟩) (packZ fs).length (packZ fs).length)/\w.heap.size<=g/\Blk .u8 5 w' g (packZ fs)/\Below w.heap.size w w':=by
 have H:=hid (Pack_ok a m c fs w hm hR hok)
 clear hR hok hm
 generalize hL:(packZ fs).length=L at *
 go_enter Tryz.func179,Tryz.ntmps179
 go_wp2_with fail
 refine Calls.mono H.out ?_
 rintro e w1 ⟨g,rfl,hg,hb,b1⟩
 have FIN:=hid (And.intro hg (And.intro hb b1))
 clear hg hb b1 H
 go_wp2
 go_ret
 exact⟨g,rfl,FIN.out.1,FIN.out.2.1,FIN.out.2.2⟩
theorem fields_any(fr bl:Int)(w:World):Calls Tryz.prog 268 #[.agg #[.int .i64 fr,.int .i64 bl]] w fun e w'=>e=.returned (.slice (some ⟨w.heap.size+1,0,none⟩) 2 2)/\w'=(w.alloc (.cells #[.int .i64 fr,.int .i64 bl] 148)).alloc (.cells #[.int .i64 3,.int .i64 fr,.int .i64 3,.int .i64 bl] 204):=by
 go_enter Tryz.func268,Tryz.ntmps268
 go_wp2
 go_ret
 refine⟨by simp,by simp⟩
end Go.Proofs.YtlefjidbpjkhlaaGreat
