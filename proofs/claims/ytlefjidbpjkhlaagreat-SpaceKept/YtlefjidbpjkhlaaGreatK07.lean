import Derived.Test.YtlefjidbpjkhlaaGreatK00
import Derived.WalkKit
import Derived.WalkSpells
import Derived.WalkLawsBesides
import Derived.Laws.BitsAllLaws
set_option maxRecDepth 100000
set_option maxHeartbeats 16000000
namespace Go.Proofs.YtlefjidbpjkhlaaGreat
variable {zs:List Int}
variable {b j k m x:Nat}
variable {w:World}
open Go.RowKit
theorem or_u64{A z:Int}(h0:0<=A)(h1:A<72057594037927936)(z0:0<=z)(z1:z<256) :
  bits BinOp.or IntKind.u64 (IntKind.u64.wrap (A * 256)) (IntKind.u64.wrap z)=z+256 * A:=by
 obtain⟨a,rfl⟩:=Int.eq_ofNat_of_zero_le h0
 obtain⟨y,rfl⟩:=Int.eq_ofNat_of_zero_le z0
 rw[IntKind.wrap_u64,IntKind.wrap_u64,show ((a:Int) * 256) % 18446744073709551616=((a * 256:Nat):Int) by omega,show ((y:Int)) % 18446744073709551616=((y:Nat):Int) by omega,
  u64_or_nat _ _ (by omega) (by omega),Pl.lor_add a y (by omega)]
 omega
theorem num_any(x:Int)(w:World) :
  Calls Tryz.prog 11 #[.int .i64 x] w fun e w'=>e=.returned (.int .i64 x)/\w'=w:=by
 go_enter Tryz.func11,Tryz.ntmps11
 go_wp2
 go_ret
 exact⟨rfl,rfl⟩
def wfB (x:Int):Bool:=decide (1<=x) && decide (x<=8)
theorem widthFits_any(x:Int)(w:World) :
  Calls Tryz.prog 182 #[.int .i64 x] w fun e w'=>e=.returned (.bool (wfB x))/\w'=w:=by
 go_enter Tryz.func182,Tryz.ntmps182
 go_wp2
 all_goals go_ret
 ·exact⟨by simp[wfB, *],rfl⟩
 ·exact⟨by simp[wfB];omega,rfl⟩
theorem num_lt7(hb:Pl.isB zs)(j:Nat)(hn:zs.length<=8):Pl.num (zs.drop (j+1))<72057594037927936:=by
 have h:=Pl.num_lt (Pl.isB_drop hb (j+1))
 have hl:(zs.drop (j+1)).length<=7:=by simp;omega
 have h2:(256:Int) ^ (zs.drop (j+1)).length<=72057594037927936:=by
  generalize (zs.drop (j+1)).length=n at hl
  rcases (show n=0\/n=1\/n=2\/n=3\/n=4\/n=5\/n=6\/n=7 from by omega) with rfl | rfl | rfl | rfl | rfl | rfl | rfl | rfl <;> decide
 omega
theorem getNumber_step(hb:Pl.isB zs)(hj:j<zs.length)(hn:zs.length<=8) :
  bits BinOp.or IntKind.u64 (IntKind.u64.wrap (Pl.num (List.drop (j+1) zs) * 256)) (IntKind.u64.wrap (zs[j]?.getD 0))=Pl.num (zs.drop j):=by
 rw[Pl.num_step hj]
 have hz:=Pl.isB_getD hb j
 exact or_u64 (Pl.num_nonneg (Pl.isB_drop hb _)) (num_lt7 hb j hn) hz.1 hz.2
theorem getNumber_any (b off n cap:Nat) (zs:List Int) (w:World) (hn:n<=8) (hz:zs.length=n) (hb:Pl.isB zs)
  (hc:∀t,t<n->w.cell? ⟨b,off+t,none⟩=some (.int .u8 (zs.getD t 0))) :
  Calls Tryz.prog 183 #[.slice (some ⟨b,off,none⟩) n cap] w fun e w'=>e=.returned (.int .u64 (Pl.num zs))/\w'=w:=by
 go_enter Tryz.func183,Tryz.ntmps183
 go_wp2
 go_loop [3,4] (fun s i=>∃k:Nat,k<=n/\i=.int .i64 ((k:Int)-1)/\s=.int .u64 (Pl.num (zs.drop k))) (fun _ i=>(intOf i+1).toNat)
 case atStart=>exact⟨n,Nat.le_refl _,rfl,by rw[List.drop_of_length_le (by omega)];rfl⟩
 case round=>
  obtain⟨k,hk,rfl,rfl⟩:=hrel
  by_cases h0:k=0
  ·subst h0
   go_wp2
   go_ret
   exact⟨by simp,rfl⟩
  ·obtain⟨j,rfl⟩:∃j,k=j+1:=⟨k-1,by omega⟩
   have hcj:=hc j (by omega)
   go_wp2
   go_round
   case rel=>exact⟨j,by omega,rfl,by rw[getNumber_step hb (by omega) (by omega)]⟩
   case measure=>simp[intOf]
def zeroB (zs:List Int):Bool:=zs.all (· == 0)
theorem zeroB_step(h:zeroB (zs.take k)=true)(he:zs[k]?.getD 0=0):zeroB (zs.take (k+1))=true:=by
 unfold zeroB at *
 rw[List.take_add_one,List.all_append,h]
 cases hk:zs[k]? <;> simp_all
theorem zeroB_not(he:zs[k]?.getD 0≠0):zeroB zs=false:=by
 unfold zeroB
 rw[List.all_eq_false]
 cases hk:zs[k]? with
 | none=>simp[hk]at he
 | some z=>exact⟨z,List.mem_of_getElem? hk,by simpa [hk] using he⟩
theorem allZero_any(B:Nat)(a:Option Addr)(n cap:Nat)(zs:List Int)(w:World)(hm:n<=1048576)(h:Rd B w a n zs) :
  Calls Tryz.prog 223 #[.slice a n cap] w fun e w'=>e=.returned (.bool (zeroB zs))/\w'=w:=by
 obtain⟨hz,hb,h3⟩:=h
 rcases h3 with rfl | ⟨b,off,rfl,hlt,hc⟩
 ·have:zs=[]:=List.length_eq_zero_iff.1 hz
  subst this
  go_enter Tryz.func223,Tryz.ntmps223
  go_wp2
  refine wp_loop_rounds 1 ?_
  rw[rounds_succ]
  go_wp2
  go_ret
  exact⟨rfl,rfl⟩
 ·go_enter Tryz.func223,Tryz.ntmps223
  go_wp2
  go_loop [7] (fun i=>∃k:Nat,k<=n/\i=.int .i64 (k:Int)/\zeroB (zs.take k)=true) (fun i=>n-(intOf i).toNat)
  case atStart=>exact⟨0,Nat.zero_le _,rfl,rfl⟩
  case round=>
   obtain⟨k,hk,rfl,hzt⟩:=hrel
   by_cases h0:k<n
   ·obtain⟨z,hzv⟩:∃z,z=zs.getD k 0:=⟨_,rfl⟩
    have hcj:=hc k h0
    rw[<- hzv]at hcj
    rw[List.getD_eq_getElem?_getD]at hzv
    have H:Hid (z=zs[k]?.getD 0):=hzv
    clear hzv hc hz hb
    by_cases he:z=0
    ·subst he
     go_wp2
     go_round
     case rel=>exact⟨k+1,by omega,by go_num,zeroB_step hzt H.out.symm⟩
     case measure=>simp[intOf];omega
    ·have hne:(z != 0)=true:=by simpa using he
     go_wp2
     go_ret
     exact⟨by rw[zeroB_not (k:=k) (by rw[<- H.out];exact he)];rfl,rfl⟩
   ·go_wp2
    go_ret
    rw[List.take_of_length_le (by omega)]at hzt
    exact⟨by rw[hzt];rfl,rfl⟩
theorem putNumber_any(g off n cap:Nat)(v:Int)(zs:List Int)(w:World)(hn:n<=8)(h0:0<=v)(h1:v<18446744073709551616)(hB:Blk .u8 5 w g zs)(hl:off+n<=zs.length) :
  Calls Tryz.prog 220 #[.slice (some ⟨g,off,none⟩) n cap,.int .u64 v] w fun e w'=>e=.returned (.tuple #[])/\w'.heap.size=w.heap.size/\w.grownBy w' (some g)/\Blk .u8 5 w' g (splice zs off (Pl.dig v n)):=by
 go_enter Tryz.func220,Tryz.ntmps220
 go_wp2
 go_loopw [1,7] (fun s i wr=>∃(k:Nat) (u:Int) (ys:List Int),k<=n/\0<=u/\u<18446744073709551616/\i=.int .i64 (k:Int)/\s=.int .u64 u/\Blk .u8 5 wr g ys/\ys.length=zs.length /\
   splice ys (off+k) (Pl.dig u (n-k))=splice zs off (Pl.dig v n)/\wr.heap.size=w.heap.size/\w.grownBy wr (some g)) (fun _ i _=>n-(intOf i).toNat)
 case atStart=>exact⟨0,v,zs,Nat.zero_le _,h0,h1,rfl,rfl,hB,rfl,by simp,rfl,World.grownBy.refl _ _⟩
 case round=>
  obtain⟨k,u,ys,hk,u0,u1,rfl,rfl,hBk,hyl,hsp,hsz,hgr⟩:=hrel
  by_cases hlt:k<n
  ·have hc:=hBk.cell (off+k) (by omega)
   have hf:=hBk.frozen (off+k)
   go_wp2
   go_roundw
   case rel=>
    refine⟨k+1,u / 256,ys.set (off+k) (u % 256),by omega,by omega,by omega,by go_num,rfl,hBk.set _ _,by simpa using hyl,?_,by simpa [World.setCell] using hsz,grown_set hgr rfl _⟩
    rw[<- hsp,show n-k=(n-(k+1))+1 by omega,Pl.dig,splice_cons _ _ _ _ (by omega)]
    rfl
   case measure=>simp[intOf];omega
  ·go_wp2
   go_end0
   rw[show n-k=0 by omega,Pl.dig,splice_nil]at hsp
   exact⟨rfl,hsz,hgr,hsp ▸ hBk⟩
theorem steps_tab:(List.range 16).map (fun x=>((Pl.stepN 4 x:Nat):Int))=[0,274646895,549293790,820201905,1098587580,1361435347,1640403810,1905808397,2197175160,2460548119,2722870694,2987750089,3280807620,3553878443,3811616794,4084100981]:=by decide
def tab:List Int:=(List.range 16).map (fun x=>((Pl.stepN 4 x:Nat):Int))
theorem sumSteps_any(w:World) :
  Calls Tryz.prog 242 #[] w fun e w'=>e=.returned (.agg (tab.map (Value.int .u32)).toArray)/\w'=w.alloc (.cells (tab.map (Value.int .u32)).toArray 295):=by
 rw[show tab=_ from steps_tab]
 go_enter Tryz.func242,Tryz.ntmps242
 go_wp2
 exact bodyPost_ret (v:=.agg (List.map (Value.int .u32) [0,274646895,549293790,820201905,1098587580,1361435347,1640403810,1905808397,2197175160,2460548119,2722870694,2987750089,3280807620,3553878443,3811616794,4084100981]).toArray) (by simp[results,Tryz.results242,go_sem]) rfl ⟨rfl,rfl⟩
open Go.RowKit
def cat (Z:Nat->List Int):Nat->List Int
 | 0=>[]
 | k+1=>cat Z k++Z k
def reg (L:List Int):Nat:=Pl.sums 4294967295 (L.map Int.toNat)
def crc (L:List Int):Int:=((4294967295 ^^^ reg L:Nat):Int)
theorem reg_lt{L:List Int}(h:Pl.isB L):reg L<4294967296:=by
 have:∀(l:List Int) (s:Nat),Pl.isB l->s<4294967296->Pl.sums s (l.map Int.toNat)<4294967296:=by
  intro l
  induction l with
  | nil=>intro s _ hs;exact hs
  | cons z r ih=>intro s hb hs;rw[Pl.isB_cons]at hb;simp only[List.map_cons,Pl.sums,List.foldl_cons];exact ih _ hb.2 (Pl.sumB_lt hs (by omega))
 exact this L _ h (by decide)
theorem reg_snoc(L:List Int)(z:Int):reg (L++[z])=Pl.sumB (reg L) z.toNat:=by simp[reg,Pl.sums]
theorem isB_cat{Z:Nat->List Int}(h:∀t,t<k->Pl.isB (Z t)):Pl.isB (cat Z k):=by
 induction k with
 | zero=>exact Pl.isB_nil
 | succ k ih=>rw[cat,Pl.isB_append];exact⟨ih fun t ht=>h t (by omega),h k (by omega)⟩
theorem xor_u32{S z:Nat}(hS:S<4294967296)(hz:z<4294967296):bits BinOp.xor IntKind.u32 (S:Int) (z:Int)=((S ^^^ z:Nat):Int):=u32_xor_nat S z hS hz
theorem not_u32{z:Nat}(hz:z<4294967296):bits BinOp.xor IntKind.u32 IntKind.u32.max (z:Int)=((4294967295 ^^^ z:Nat):Int):=u32_xor_nat 4294967295 z (by decide) hz
theorem and15{T:Nat}(hT:T<4294967296):bits BinOp.and IntKind.u32 (T:Int) 15=((T % 16:Nat):Int):=by
 have h:=u32_and_nat T 15 hT (by decide)
 rw[show T &&& 15=T % 16 from Nat.and_two_pow_sub_one_eq_mod T 4]at h
 exact h
theorem half{T:Nat}(hT:T<4294967296):bits BinOp.xor IntKind.u32 ((T:Int) / 16) ((Pl.stepN 4 (T % 16):Nat):Int)=((Pl.stepN 4 T:Nat):Int):=by
 have h:=u32_xor_nat (T / 16) (Pl.stepN 4 (T % 16)) (by omega) (Pl.stepN_lt 4 (by omega))
 rw[Pl.step4 T,<- h]
 rfl
theorem tab_getD(h:x<16):tab.getD x 0=((Pl.stepN 4 x:Nat):Int):=by
 unfold tab
 simp[h]
theorem tab_cell(w:World){x:Nat}(h:x<16):((w.alloc (.cells (tab.map (Value.int .u32)).toArray 295)).alloc (.cells (tab.map (Value.int .u32)).toArray 295)).cell? ⟨w.heap.size+1,x,none⟩=some (.int .u32 ((Pl.stepN 4 x:Nat):Int)):=by
 have hl:tab.length=16:=by decide
 have h2:=Blk.cell (Blk.new (k:=.u32) (e:=144) (w.alloc (.cells (tab.map (Value.int .u32)).toArray 295)) tab) x (by omega)
 rw[tab_getD h]at h2
 simpa using h2
theorem tab_store(w:World):Sem.run Tryz.prog (storeCells ⟨w.heap.size+1,0,none⟩ (tab.map (Value.int .u32)))
  ((w.alloc (.cells (tab.map (Value.int .u32)).toArray 295)).alloc (.cells #[.int .u32 0,.int .u32 0,.int .u32 0,.int .u32 0,.int .u32 0,.int .u32 0,.int .u32 0,.int .u32 0,.int .u32 0,.int .u32 0,.int .u32 0,.int .u32 0,.int .u32 0,.int .u32 0,.int .u32 0,.int .u32 0] 295)) =
  .ok () ((w.alloc (.cells (tab.map (Value.int .u32)).toArray 295)).alloc (.cells (tab.map (Value.int .u32)).toArray 295)):=by
 rw[show tab=_ from steps_tab]
 simp[go_sem]
theorem two_below(w:World)(o p:Obj):Below w.heap.size w ((w.alloc o).alloc p):=((Below.refl _ _).alloc (Nat.le_refl _) _).alloc (by simp) _
theorem sumOf_any (pb po m pc:Nat) (A:Nat->Option Addr) (Nn C:Nat->Nat) (Z:Nat->List Int) (w:World) (hm:m<=1048576) (hpb:pb<w.heap.size)
  (hN:∀t,t<m->Nn t<=16777216) (hp:∀t,t<m->w.cell? ⟨pb,po+t,none⟩=some (.slice (A t) (Nn t) (C t))) (hR:∀t,t<m->Rd w.heap.size w (A t) (Nn t) (Z t)) :
  Calls Tryz.prog 237 #[.slice (some ⟨pb,po,none⟩) m pc] w fun e w'=>e=.returned (.int .u32 (crc (cat Z m)))/\Below w.heap.size w w':=by
 have hst:=tab_store w
 have hbb:=two_below w (.cells (tab.map (Value.int .u32)).toArray 295) (.cells (tab.map (Value.int .u32)).toArray 295)
 have htc:=fun x=>@tab_cell w x
 have HB:=fun t ht=>(hR t ht).below hbb
 have HP:∀t,t<m->((w.alloc (.cells (tab.map (Value.int .u32)).toArray 295)).alloc (.cells (tab.map (Value.int .u32)).toArray 295)).cell? ⟨pb,po+t,none⟩=some (.slice (A t) (Nn t) (C t)):=fun t ht=>(hbb.cell (by exact hpb)).trans (hp t ht)
 have H:Hid (_/\_/\_/\_):=⟨hbb,htc,HB,HP⟩
 clear hbb htc HB HP hp hR
 go_enter Tryz.func237,Tryz.ntmps237
 go_wp2_with (go_at_call 242;refine (sumSteps_any _).mono ?_;rintro e w' ⟨rfl,rfl⟩)
 obtain⟨hbb,htc,hR,hp⟩:=H
 clear hst
 have hcat:∀k,k<=m->reg (cat Z k)<4294967296:=fun k hk=>reg_lt (isB_cat fun t ht=>(hR t (by omega)).2.1)
 generalize ((w.alloc (.cells (tab.map (Value.int .u32)).toArray 295)).alloc (.cells (tab.map (Value.int .u32)).toArray 295))=w1 at *
 generalize w.heap.size+1=gt at *
 generalize (List.map (Value.int IntKind.u32) tab).toArray=ar at *
 go_loop [4,12] (fun s i=>∃k:Nat,k<=m/\i=.int .i64 (k:Int)/\s=.int .u32 ((reg (cat Z k):Nat):Int)) (fun _ i=>m-(intOf i).toNat)
 case atStart=>exact⟨0,Nat.zero_le _,rfl,rfl⟩
 case round=>
  obtain⟨k,hk,rfl,rfl⟩:=hrel
  by_cases hkm:k<m
  ·have hpk:=hp k hkm
   have hNk:=hN k hkm
   obtain⟨hzl,hzb,hz3⟩:=hR k hkm
   have HC:Hid (cat Z (k+1)=cat Z k++Z k):=rfl
   have hck:Pl.isB (cat Z k):=isB_cat fun t ht=>(hR t (by omega)).2.1
   clear hp hN hR hcat
   generalize hL1:cat Z (k+1)=L1 at *
   have HL1:Hid (cat Z (k+1)=L1):=hL1
   clear hL1
   generalize cat Z k=L0 at *
   generalize A k=a at *
   generalize Nn k=n at *
   generalize C k=c at *
   generalize Z k=zs at *
   go_wp2
   go_loop [4,18] (fun s i=>∃j:Nat,j<=n/\i=.int .i64 (j:Int)/\s=.int .u32 ((reg (L0++zs.take j):Nat):Int)) (fun _ i=>n-(intOf i).toNat)
   case atStart=>exact⟨0,Nat.zero_le _,rfl,by simp⟩
   case round=>
    obtain⟨j,hj,rfl,rfl⟩:=hrel
    by_cases hjn:j<n
    ·rcases hz3 with hz3 | ⟨b,off,rfl,hlt,hc⟩
     ·omega
     ·obtain⟨z,hz⟩:∃z:Nat,(z:Int)=zs.getD j 0:=⟨(zs.getD j 0).toNat,by have:=Pl.isB_getD hzb j;rw[List.getD_eq_getElem?_getD];omega⟩
      have hz2:z<256:=by have:=Pl.isB_getD hzb j;rw[List.getD_eq_getElem?_getD]at hz;omega
      have hcj:=hc j hjn
      rw[<- hz]at hcj
      have hS:reg (L0++zs.take j)<4294967296:=reg_lt (Pl.isB_append.2 ⟨hck,Pl.isB_take hzb j⟩)
      have hnext:reg (L0++zs.take (j+1))=Pl.stepN 4 (Pl.stepN 4 (reg (L0++zs.take j) ^^^ z)):=by
       rw[take_snoc (by omega),<- List.append_assoc,reg_snoc,<- List.getD_eq_getElem?_getD,<- hz,<- Pl.step8];rfl
      have HN:Hid (reg (L0++zs.take (j+1))=Pl.stepN 4 (Pl.stepN 4 (reg (L0++zs.take j) ^^^ z))):=hnext
      clear hnext hc hz HC hck hzb
      generalize reg (L0++zs.take j)=S at *
      have e1:=xor_u32 (S:=S) (z:=z) hS (by omega)
      have hT:S ^^^ z<4294967296:=Nat.xor_lt_two_pow (n:=32) hS (by omega)
      generalize S ^^^ z=T at *
      have e2:=and15 hT
      have e3:=half hT
      have c1:=htc (T % 16) (by omega)
      have hT2:Pl.stepN 4 T<4294967296:=Pl.stepN_lt 4 hT
      generalize Pl.stepN 4 (T % 16)=q1 at *
      generalize Pl.stepN 4 T=T2 at *
      have e4:=and15 hT2
      have e5:=half hT2
      have c2:=htc (T2 % 16) (by omega)
      generalize Pl.stepN 4 (T2 % 16)=q2 at *
      generalize Pl.stepN 4 T2=T3 at *
      clear htc
      go_wp2
      go_round
      case rel=>exact⟨j+1,by omega,by go_num,by rw[HN.out]⟩
      case measure=>simp[intOf];omega
    ·have hjn':zs.take j=zs:=List.take_of_length_le (by omega)
     rw[hjn',<- HC.out]
     go_wp2
     go_round
     case rel=>exact⟨k+1,by omega,by go_num,by rw[HL1.out]⟩
     case measure=>simp[intOf];omega
  ·have e:k=m:=by omega
   subst e
   have e1:=not_u32 (hcat k (Nat.le_refl _))
   go_wp2
   go_ret
   refine⟨?_,hbb⟩
   unfold crc
   rw[<- e1]
   rfl
open Go.RowKit
theorem cat3(zs:List Int):cat (fun t=>if t=0 then zs.take 11 else if t=1 then zeros 4 else zs.drop 15) 3=splice zs 11 [0,0,0,0]:=by
 simp[cat,splice,zeros,List.replicate]
theorem parts3 (b off cap:Nat) (zs:List Int) (w:World) (hz:zs.length=512) (hzb:Pl.isB zs) (hb:b<w.heap.size)
  (hc:∀t,t<512->w.cell? ⟨b,off+t,none⟩=some (.int .u8 (zs.getD t 0))) :
  Calls Tryz.prog 237 #[.slice (some ⟨w.heap.size+1,0,none⟩) 3 3] ((w.alloc (.cells ((zeros 4).map (Value.int .u8)).toArray 5)).alloc (.cells #[.slice (some ⟨b,off,none⟩) 11 cap,.slice (some ⟨w.heap.size,0,none⟩) 4 4,.slice (some ⟨b,off+15,none⟩) 497 (cap-15)] 65)).drew
   fun e w'=>e=.returned (.int .u32 (crc (splice zs 11 [0,0,0,0])))/\Below w.heap.size w w':=by
 have hb1:Below w.heap.size w ((w.alloc (.cells ((zeros 4).map (Value.int .u8)).toArray 5)).alloc (.cells #[.slice (some ⟨b,off,none⟩) 11 cap,.slice (some ⟨w.heap.size,0,none⟩) 4 4,.slice (some ⟨b,off+15,none⟩) 497 (cap-15)] 65)).drew:=(two_below w _ _).drew
 have hz4:Blk .u8 5 ((w.alloc (.cells ((zeros 4).map (Value.int .u8)).toArray 5)).alloc (.cells #[.slice (some ⟨b,off,none⟩) 11 cap,.slice (some ⟨w.heap.size,0,none⟩) 4 4,.slice (some ⟨b,off+15,none⟩) 497 (cap-15)] 65)).drew w.heap.size (zeros 4):=((Blk.new w (zeros 4)).alloc _).drew
 have hsz:((w.alloc (.cells ((zeros 4).map (Value.int .u8)).toArray 5)).alloc (.cells #[.slice (some ⟨b,off,none⟩) 11 cap,.slice (some ⟨w.heap.size,0,none⟩) 4 4,.slice (some ⟨b,off+15,none⟩) 497 (cap-15)] 65)).drew.heap.size=w.heap.size+2:=by simp
 have hcells:∀t,t<3->((w.alloc (.cells ((zeros 4).map (Value.int .u8)).toArray 5)).alloc (.cells #[.slice (some ⟨b,off,none⟩) 11 cap,.slice (some ⟨w.heap.size,0,none⟩) 4 4,.slice (some ⟨b,off+15,none⟩) 497 (cap-15)] 65)).drew.cell? ⟨w.heap.size+1,0+t,none⟩ =
   some (.slice (if t=0 then some ⟨b,off,none⟩ else if t=1 then some ⟨w.heap.size,0,none⟩ else some ⟨b,off+15,none⟩) (if t=0 then 11 else if t=1 then 4 else 497) (if t=0 then cap else if t=1 then 4 else cap-15)):=by
  intro t ht
  rcases (show t=0\/t=1\/t=2 from by omega) with rfl | rfl | rfl <;> simp
 generalize ((w.alloc (.cells ((zeros 4).map (Value.int .u8)).toArray 5)).alloc (.cells #[.slice (some ⟨b,off,none⟩) 11 cap,.slice (some ⟨w.heap.size,0,none⟩) 4 4,.slice (some ⟨b,off+15,none⟩) 497 (cap-15)] 65)).drew=W at *
 have hcW:∀t,t<512->W.cell? ⟨b,off+t,none⟩=some (.int .u8 (zs.getD t 0)):=fun t ht=>(hb1.cell (by exact hb)).trans (hc t ht)
 refine (sumOf_any _ _ 3 _ (fun t=>if t=0 then some ⟨b,off,none⟩ else if t=1 then some ⟨w.heap.size,0,none⟩ else some ⟨b,off+15,none⟩) (fun t=>if t=0 then 11 else if t=1 then 4 else 497) (fun t=>if t=0 then cap else if t=1 then 4 else cap-15)
  (fun t=>if t=0 then zs.take 11 else if t=1 then zeros 4 else zs.drop 15) W (by decide) (by omega) ?_ hcells ?_).mono ?_
 ·intro t ht
  rcases (show t=0\/t=1\/t=2 from by omega) with rfl | rfl | rfl <;> simp
 ·intro t ht
  rcases (show t=0\/t=1\/t=2 from by omega) with rfl | rfl | rfl
  ·refine⟨by simp;omega,Pl.isB_take hzb _,.inr ⟨b,off,rfl,by omega,fun t ht=>?_⟩⟩
   rw[hcW t (by simp at ht;omega)]
   simp at ht
   simp[List.getElem?_take_of_lt ht]
  ·refine⟨by simp[zeros],isB_zeros 4,.inr ⟨w.heap.size,0,rfl,by omega,fun t ht=>?_⟩⟩
   have h:=hz4.cell t (by simp at ht;simpa [zeros] using ht)
   simpa using h
  ·refine⟨by simp;omega,Pl.isB_drop hzb _,.inr ⟨b,off+15,rfl,by omega,fun t ht=>?_⟩⟩
   have h:=hcW (15+t) (by simp at ht;omega)
   rw[show off+15+t=off+(15+t) by omega,h]
   simp
 ·rintro e w' ⟨rfl,hb2⟩
  exact⟨by rw[cat3],hb1.trans (hb2.mono (by omega))⟩
theorem stampSum_any (b off cap:Nat) (zs:List Int) (w:World) (hz:zs.length=512) (hzb:Pl.isB zs) (hb:b<w.heap.size) (hcap:512<=cap)
  (hc:∀t,t<512->w.cell? ⟨b,off+t,none⟩=some (.int .u8 (zs.getD t 0))) :
  Calls Tryz.prog 224 #[.slice (some ⟨b,off,none⟩) 512 cap] w fun e w'=>e=.returned (.int .u32 (crc (splice zs 11 [0,0,0,0])))/\Below w.heap.size w w':=by
 have hmk:∀u:World,(Instr.makeSlice 65 (.int .i64 4) (.int .i64 4)).run Tryz.prog u=.ok (.slice (some ⟨u.heap.size,0,none⟩) 4 4) (u.alloc (.cells ((zeros 4).map (Value.int .u8)).toArray 5)):=make_u8 4 (by decide)
 go_enter Tryz.func224,Tryz.ntmps224
 go_wp2_with fail
 go_region_with (go_at_call 237;refine (parts3 b off cap zs w hz hzb hb hc).mono ?_;rintro e w' ⟨rfl,hb2⟩)
 all_goals go_wp2
 all_goals go_ret
 all_goals exact⟨rfl,by assumption⟩
open Go.RowKit
def bareZ (kind seq:Int) (body:List Int):List Int:=kind :: (Pl.dig (body.length:Int) 2++(Pl.dig seq 8++([0,0,0,0]++(body++zeros (497-body.length)))))
def stampZ (kind seq:Int) (body:List Int):List Int:=splice (bareZ kind seq body) 11 (Pl.dig (crc (bareZ kind seq body)) 4)
theorem crc_bd{L:List Int}(h:Pl.isB L):0<=crc L/\crc L<4294967296:=by
 have h1:4294967295 ^^^ reg L<2 ^ 32:=Nat.xor_lt_two_pow (n:=32) (by decide) (reg_lt h)
 unfold crc
 omega
theorem isB_set{L:List Int}(h:Pl.isB L)(i:Nat){x:Int}(hx:0<=x/\x<256):Pl.isB (L.set i x):=by
 intro z hz
 rcases List.mem_or_eq_of_mem_set hz with h1 | rfl
 ·exact h z h1
 ·exact hx
theorem isB_four:Pl.isB [0,0,0,0]:=by intro z hz;simp at hz;omega
theorem zeros_add(m n:Nat):zeros (m+n)=zeros m++zeros n:=by simp[zeros,List.replicate_append_replicate]
theorem zeros_drop(m n:Nat):(zeros m).drop n=zeros (m-n):=by simp[zeros]
theorem bare_zero(kind seq:Int)(body:List Int):splice (bareZ kind seq body) 11 [0,0,0,0]=bareZ kind seq body:=by
 simp[bareZ,splice,Pl.dig]
theorem bare_eq(kind seq:Int)(body:List Int) :
  splice (splice (splice ((zeros 512).set 0 kind) 1 (Pl.dig (body.length:Int) 2)) 3 (Pl.dig seq 8)) 15 body=kind :: (Pl.dig (body.length:Int) 2++(Pl.dig seq 8++([0,0,0,0]++(body++zeros (497-body.length))))):=by
 have e:(zeros 512).set 0 kind=kind :: ([0,0]++([0,0,0,0,0,0,0,0]++([0,0,0,0]++zeros 497))):=by
  rw[show (512:Nat)=15+497 from rfl,zeros_add]
  rfl
 have hd:=zeros_drop 497 body.length
 generalize zeros (497-body.length)=Z1 at *
 generalize zeros 497=Z0 at *
 rw[e]
 simp[splice,Pl.dig,hd,Nat.add_comm]
theorem Stamp_ok(kind seq:Int)(a:Option Addr)(n c:Nat)(body:List Int)(w:World)(k1:1<=kind)(k2:kind<=255)(s1:0<=seq)(s2:seq<=1099511627776)(hn:n<=497)(hR:Rd w.heap.size w a n body) :
  Calls Tryz.prog 198 #[.int .i64 kind,.int .i64 seq,.slice a n c] w fun e w'=>e=.returned (.tuple #[.slice (some ⟨w.heap.size,0,none⟩) 512 512,.int .i64 0])/\Blk .u8 5 w' w.heap.size (stampZ kind seq body)/\Below w.heap.size w w':=by
 obtain⟨i0,hi,hz0,hz1,hz2⟩:=info_parts info5
 go_enter Tryz.func198,Tryz.ntmps198
 go_wp2_with (at_make;refine wpList_make_full _ rfl _ _ 65 rfl w.heap.size 5 i0 (.int .u8 0) 1 Tryz.underlying65 hi hz0 hz1 _ _ _ _ 512 rfl rfl rfl rfl ?b2 ?b3 (Nat.le_refl _) ?_)
 case b2=>rw[hz2];decide
 case b3=>decide
 intro w0 hown hgrow
 have hB0:Blk .u8 5 w0 w.heap.size (zeros 512):=Blk.of_owns hown (by show (madeCells #[Value.int .u8 0] (512 * 1)).toList=_;rw[made_zeros])
 have hb0:Below w.heap.size w w0:=(Below.refl _ _).grown hgrow (Nat.le_refl _) (fun k h=>by cases h)
 clear hown hgrow
 have c0:=hB0.cell 0 (by rw[length_zeros];decide)
 have f0:=hB0.frozen 0
 have hB1:=hB0.set 0 kind
 have hb1:Below w.heap.size w (w0.setCell ⟨w.heap.size,0,none⟩ (.int .u8 kind)):=hb0.setCell (Nat.le_refl _) _
 have HB:Hid (Blk .u8 5 (w0.setCell ⟨w.heap.size,0,none⟩ (.int .u8 kind)) w.heap.size ((zeros 512).set 0 kind)):=hB1
 clear hB1 hB0
 have hsz1:(w0.setCell ⟨w.heap.size,0,none⟩ (.int .u8 kind)).heap.size=w0.heap.size:=by simp[World.setCell]
 go_wp2_with fail
 refine (putNumber_any _ 1 2 _ n ((zeros 512).set 0 kind) _ (by decide) (by omega) (by omega) HB.out (by simp[length_zeros])).mono ?_
 rintro e w1 ⟨rfl,hs1,hg1,hB1⟩
 have hb2:Below w.heap.size w w1:=hb1.grown hg1 hb1.size (fun k h=>by cases h;exact Nat.le_refl _)
 clear hg1 hs1 hb1 HB c0 f0
 have HB1:Hid (Blk .u8 5 w1 w.heap.size (splice ((zeros 512).set 0 kind) 1 (Pl.dig n 2))):=hB1
 clear hB1
 go_wp2_with fail
 refine (putNumber_any _ 3 8 _ seq _ _ (by decide) (by omega) (by omega) HB1.out (by rw[length_splice _ _ _ (by simp[length_zeros,Pl.length_dig])];simp[length_zeros])).mono ?_
 rintro e w2 ⟨rfl,hs2,hg2,hB2⟩
 have hb3:Below w.heap.size w w2:=hb2.grown hg2 hb2.size (fun k h=>by cases h;exact Nat.le_refl _)
 clear hg2 hs2 hb2 HB1
 obtain⟨Y,hY⟩:∃Y,Y=splice (splice ((zeros 512).set 0 kind) 1 (Pl.dig n 2)) 3 (Pl.dig seq 8):=⟨_,rfl⟩
 rw[<- hY]at hB2
 have HY:Hid (Y=splice (splice ((zeros 512).set 0 kind) 1 (Pl.dig n 2)) 3 (Pl.dig seq 8)):=hY
 clear hY
 have HB2:Hid (Blk .u8 5 w2 w.heap.size Y):=hB2
 clear hB2
 have hYl:Hid (Y.length=512):=by
  show _=_
  rw[HY.out,length_splice,length_splice] <;> (try rw[length_splice]) <;> simp[length_zeros,Pl.length_dig]
 obtain⟨w3,hcp,hB3,hs3,hg3⟩:=copy_u8 w.heap.size 15 497 497 a n c Y body w2 w.heap.size HB2.out (hR.below hb3) hn (by rw[hYl.out];omega)
 have hb4:Below w.heap.size w w3:=hb3.grown hg3 hb3.size (fun k h=>by cases h;exact Nat.le_refl _)
 have HB3:Hid (Blk .u8 5 w3 w.heap.size (splice Y 15 body)):=hB3
 clear hB3 hs3 hg3 HB2 hb3
 have hlen:(splice Y 15 body).length=512:=by rw[length_splice _ _ _ (by rw[hYl.out,hR.1];omega),hYl.out]
 have hYb:Pl.isB Y:=by rw[HY.out];exact isB_splice (isB_splice (isB_set (isB_zeros _) _ (by omega)) (Pl.isB_dig _ _) _) (Pl.isB_dig _ _) _
 have hXb:Pl.isB (splice Y 15 body):=isB_splice hYb hR.2.1 _
 have hfin:Hid (splice Y 15 body=bareZ kind seq body):=by
  show _=_
  rw[HY.out,bareZ,<- hR.1]
  exact bare_eq kind seq body
 have hfin2:Hid (splice (splice Y 15 body) 11 [0,0,0,0]=bareZ kind seq body):=by
  show _=_
  rw[hfin.out]
  exact bare_zero kind seq body
 clear HY hYl hYb
 generalize splice Y 15 body=X at *
 obtain⟨hcb1,hcb2⟩:=crc_bd (isB_splice hXb (isB_four) 11)
 have hg3:w.heap.size<w3.heap.size:=HB3.out.lt
 have e64:IntKind.u64.wrap (crc (splice X 11 [0,0,0,0]))=crc (splice X 11 [0,0,0,0]):=by rw[IntKind.wrap_u64];omega
 generalize hC:crc (splice X 11 [0,0,0,0])=C at *
 have HC:Hid (crc (splice X 11 [0,0,0,0])=C):=hC
 clear hC
 have hst:=stampSum_any w.heap.size 0 512 X w3.drew hlen hXb hg3 (by decide) (by intro t ht;rw[Nat.zero_add];exact HB3.out.drew.cell t (by rw[hlen];exact ht))
 rw[HC.out]at hst
 have HST:Hid _:=hst
 clear hst
 go_wp2_with fail
 go_region_with (first
  | (go_at_call 224;refine Calls.mono HST.out ?_;rintro e w4 ⟨rfl,hb5⟩;have hB4:Hid (Blk .u8 5 w4 w.heap.size X):=Blk.below (w:=w3.drew) HB3.out.drew hb5 hg3;have hb6:Below w.heap.size w w4:=(hb4.drew).trans (hb5.mono (Nat.le_of_lt hg3)))
  | (go_at_call 220;(refine (putNumber_any w.heap.size 11 4 501 C X w4 (by decide) (by omega) (by omega) (by exact hB4.out) (by rw[hlen];decide)).mono ?_;rintro e w5 ⟨rfl,hs5,hg5,hB5⟩;have hb7:Below w.heap.size w w5:=hb6.grown hg5 hb6.size (fun k h=>by cases h;exact Nat.le_refl _))))
 all_goals go_wp2
 all_goals go_ret2
 all_goals
  refine⟨rfl,?_,by assumption⟩
  have eC:crc (bareZ kind seq body)=C:=by rw[<- hfin2.out];exact HC.out
  rw[stampZ,eC,<- hfin.out]
  assumption
open Go.RowKit
theorem part_cells{off:Nat}(hc:∀t,t<m->w.cell? ⟨b,off+t,none⟩=some (.int .u8 (zs.getD t 0)))(i n:Nat)(h:i+n<=m) :
  ∀t,t<n->w.cell? ⟨b,off+i+t,none⟩=some (.int .u8 (((zs.drop i).take n).getD t 0)):=by
 intro t ht
 rw[show off+i+t=off+(i+t) by omega,hc (i+t) (by omega)]
 simp[List.getElem?_take_of_lt ht]
theorem splice_all(Z cs:List Int)(h:Z.length<=cs.length):splice Z 0 cs=cs:=by
 unfold splice
 rw[List.take_zero,List.nil_append,Nat.zero_add,List.drop_eq_nil_of_le h,List.append_nil]
theorem unst_copy (b off c L:Nat) (zs:List Int) (w w2:World) (hz:zs.length=512) (hzb:Pl.isB zs) (hb:b<w.heap.size) (hL1:L<=497)
  (hc:∀t,t<512->w.cell? ⟨b,off+t,none⟩=some (.int .u8 (zs.getD t 0))) (hb2:Below w.heap.size w w2) :
  ∃w3,Sem.run Tryz.prog (Builtin.copy_ #[65,65] 3 #[.slice (some ⟨w2.heap.size,0,none⟩) L L,.slice (some ⟨b,off+15,none⟩) L c]) (w2.alloc (.cells ((zeros L).map (Value.int .u8)).toArray 5))=.ok (.int .i64 (L:Int)) w3 /\
   Blk .u8 5 w3 w2.heap.size ((zs.drop 15).take L)/\Below w.heap.size w w3:=by
 have hb3:Below w.heap.size w (w2.alloc (.cells ((zeros L).map (Value.int .u8)).toArray 5)):=hb2.alloc hb2.size _
 have hl:((zs.drop 15).take L).length=L:=by simp;omega
 have hR:Rd w.heap.size (w2.alloc (.cells ((zeros L).map (Value.int .u8)).toArray 5)) (some ⟨b,off+15,none⟩) L ((zs.drop 15).take L) :=
  ⟨hl,Pl.isB_take (Pl.isB_drop hzb _) _,.inr ⟨b,off+15,rfl,hb,fun t ht=>(hb3.cell (by exact hb)).trans (part_cells hc 15 L (by omega) t ht)⟩⟩
 obtain⟨w3,h1,h2,h3,h4⟩:=copy_u8 w2.heap.size 0 L L (some ⟨b,off+15,none⟩) L c (zeros L) ((zs.drop 15).take L) _ w.heap.size (Blk.new w2 (zeros L)) hR (Nat.le_refl _) (by rw[length_zeros];omega)
 refine⟨w3,h1,?_,hb3.grown h4 hb3.size (fun k h=>by cases h;exact hb2.size)⟩
 have e:splice (zeros L) 0 ((zs.drop 15).take L)=(zs.drop 15).take L:=splice_all _ _ (by rw[length_zeros,hl];exact Nat.le_refl _)
 rw[<- e]
 exact h2
theorem Unstamp_ok (b off cap:Nat) (zs:List Int) (K S:Int) (L:Nat) (w:World) (hz:zs.length=512) (hzb:Pl.isB zs) (hb:b<w.heap.size) (hcap:512<=cap)
  (hc:∀t,t<512->w.cell? ⟨b,off+t,none⟩=some (.int .u8 (zs.getD t 0)))
  (hK:zs.getD 0 0=K) (hK1:1<=K) (hL:Pl.num ((zs.drop 1).take 2)=(L:Int)) (hL1:L<=497) (hS:Pl.num ((zs.drop 3).take 8)=S) (hS1:S<=1099511627776)
  (h0:zeroB (zs.drop (15+L))=true) (hsum:Pl.num ((zs.drop 11).take 4)=crc (splice zs 11 [0,0,0,0])) :
  Calls Tryz.prog 195 #[.slice (some ⟨b,off,none⟩) 512 cap] w fun e w'=>∃g,e=.returned (.tuple #[.int .i64 K,.int .i64 S,.slice (some ⟨g,0,none⟩) L L,.int .i64 0])/\w.heap.size<=g/\Blk .u8 5 w' g ((zs.drop 15).take L)/\Below w.heap.size w w':=by
 have hS0:0<=S:=by rw[<- hS];exact Pl.num_nonneg (Pl.isB_take (Pl.isB_drop hzb _) _)
 have hK2:K<256:=by rw[<- hK,List.getD_eq_getElem?_getD];exact (Pl.isB_getD hzb 0).2
 have c0:w.cell? ⟨b,off,none⟩=some (.int .u8 K):=by rw[<- hK];exact hc 0 (by decide)
 have g1:=getNumber_any b (off+1) 2 (cap-1) ((zs.drop 1).take 2) w (by decide) (by simp;omega) (Pl.isB_take (Pl.isB_drop hzb _) _) (part_cells hc 1 2 (by decide))
 have g3:=getNumber_any b (off+3) 8 (cap-3) ((zs.drop 3).take 8) w (by decide) (by simp;omega) (Pl.isB_take (Pl.isB_drop hzb _) _) (part_cells hc 3 8 (by decide))
 have g11:=getNumber_any b (off+11) 4 (cap-11) ((zs.drop 11).take 4) w (by decide) (by simp;omega) (Pl.isB_take (Pl.isB_drop hzb _) _) (part_cells hc 11 4 (by decide))
 rw[hL]at g1
 rw[hS]at g3
 rw[hsum]at g11
 have hst:=stampSum_any b off cap zs w hz hzb hb hcap hc
 obtain⟨q1,q2⟩:=crc_bd (isB_splice hzb isB_four 11)
 generalize crc (splice zs 11 [0,0,0,0])=C at *
 have G1:Hid _:=g1
 have G3:Hid _:=g3
 have G11:Hid _:=g11
 have HST:Hid _:=hst
 have HC:Hid (∀t,t<512->w.cell? ⟨b,off+t,none⟩=some (.int .u8 (zs.getD t 0))):=hc
 have HA1:cap=15+L->Calls Tryz.prog 223 #[.slice (some ⟨b,off,none⟩) (512-(15+L)) 0] w fun e w'=>e=.returned (.bool (zeroB (zs.drop (15+L))))/\w'=w:=fun h=>by
  have hL2:L=497:=by omega
  subst hL2
  exact allZero_any w.heap.size _ 0 0 _ w (by decide) ⟨by simp;omega,Pl.isB_drop hzb _,.inl rfl⟩
 have HA2:Calls Tryz.prog 223 #[.slice (some ⟨b,off+(15+L),none⟩) (512-(15+L)) (cap-(15+L))] w fun e w'=>e=.returned (.bool (zeroB (zs.drop (15+L))))/\w'=w :=
  allZero_any w.heap.size _ _ _ _ w (by omega) ⟨by simp;omega,Pl.isB_drop hzb _,.inr ⟨b,off+(15+L),rfl,hb,fun t ht=>by rw[show off+(15+L)+t=off+(15+L+t) by omega,hc _ (by omega)];simp⟩⟩
 rw[h0]at HA1 HA2
 have A1:Hid _:=HA1
 have A2:Hid _:=HA2
 clear HA1 HA2
 have hK3:(K == 0)=false:=by simp;omega
 have e64:IntKind.u64.wrap C=C:=by rw[IntKind.wrap_u64];omega
 clear g1 g3 g11 hst hc h0 hsum hL hS hK
 have hmk:=make_u8 L (by omega)
 go_enter Tryz.func195,Tryz.ntmps195
 go_wp2_with fail
 refine Calls.mono G1.out ?_
 rintro e w1 ⟨rfl,rfl⟩
 go_wp2_with fail
 refine Calls.mono G3.out ?_
 rintro e w1 ⟨rfl,rfl⟩
 go_wp2_with fail
 ·have hcl:cap=15+L:=by assumption
  subst hcl
  refine Calls.mono (A1.out rfl) ?_
  rintro e w1 ⟨rfl,rfl⟩
  go_wp2_with fail
  refine Calls.mono G11.out ?_
  rintro e w1 ⟨rfl,rfl⟩
  go_wp2_with fail
  refine Calls.mono HST.out ?_
  rintro e w2 ⟨rfl,hb2⟩
  obtain⟨w3,hcp,hB3,hb3⟩:=unst_copy b off L L zs w1 w2 hz hzb hb hL1 HC.out hb2
  have HB3:Hid (Blk .u8 5 w3 w2.heap.size ((zs.drop 15).take L)):=hB3
  have hs:=hb2.size
  have Hs:Hid (w1.heap.size<=w2.heap.size):=hs
  clear hB3 hs
  go_wp2_with fail
  exact bodyPost_ret (v:=.tuple #[.int .i64 K,.int .i64 S,.slice (some ⟨w2.heap.size,0,none⟩) L L,.int .i64 0]) (by simp[results,Tryz.results195,go_sem]) rfl ⟨w2.heap.size,rfl,Hs.out,HB3.out,hb3⟩
 ·refine Calls.mono A2.out ?_
  rintro e w1 ⟨rfl,rfl⟩
  go_wp2_with fail
  refine Calls.mono G11.out ?_
  rintro e w1 ⟨rfl,rfl⟩
  go_wp2_with fail
  refine Calls.mono HST.out ?_
  rintro e w2 ⟨rfl,hb2⟩
  obtain⟨w3,hcp,hB3,hb3⟩:=unst_copy b off (cap-15) L zs w1 w2 hz hzb hb hL1 HC.out hb2
  have HB3:Hid (Blk .u8 5 w3 w2.heap.size ((zs.drop 15).take L)):=hB3
  have hs:=hb2.size
  have Hs:Hid (w1.heap.size<=w2.heap.size):=hs
  clear hB3 hs
  go_wp2_with fail
  exact bodyPost_ret (v:=.tuple #[.int .i64 K,.int .i64 S,.slice (some ⟨w2.heap.size,0,none⟩) L L,.int .i64 0]) (by simp[results,Tryz.results195,go_sem]) rfl ⟨w2.heap.size,rfl,Hs.out,HB3.out,hb3⟩
end Go.Proofs.YtlefjidbpjkhlaaGreat
