import Derived.WalkKit
import Derived.Laws.CopyOwn
import Derived.Test.YtlefjidbpjkhlaaGreatProg
import Derived.WalkSpells
import Derived.WalkLawsBesides
import Derived.Laws.BitsAllLaws
import Derived.Laws.AppendOwnNone
import Derived.Deep.AppendLies
import Derived.Laws.BytesArg
import Derived.Lib.SlBytesConst
import Derived.Deep.QuietTactic
import Derived.BigQuiet
import Derived.LoopN
set_option maxRecDepth 100000
set_option maxHeartbeats 16000000
namespace Go.Proofs.YtlefjidbpjkhlaaGreat.Pl
variable {zs:List Int}
variable {b k:Nat}
def num:List Int->Int
 | []=>0
 | z :: r=>z+256 * num r
def dig:Int->Nat->List Int
 | _,0=>[]
 | v,n+1=>v % 256 :: dig (v / 256) n
def isB (l:List Int):Prop:=∀z∈l,0<=z/\z<256
theorem isB_nil:isB []:=by intro z h;cases h
theorem isB_cons{z:Int}{l:List Int}:isB (z :: l) ↔ (0<=z/\z<256)/\isB l:=by simp[isB]
theorem isB_append{a b:List Int}:isB (a++b) ↔ isB a/\isB b:=by
 simp only[isB,List.mem_append]
 exact⟨fun h=>⟨fun z hz=>h z (.inl hz),fun z hz=>h z (.inr hz)⟩,fun h z hz=>hz.elim (h.1 z) (h.2 z)⟩
theorem isB_take{l:List Int}(h:isB l)(n:Nat):isB (l.take n):=fun z hz=>h z (List.mem_of_mem_take hz)
theorem isB_drop{l:List Int}(h:isB l)(n:Nat):isB (l.drop n):=fun z hz=>h z (List.mem_of_mem_drop hz)
theorem isB_getD{l:List Int}(h:isB l)(k:Nat):0<=l[k]?.getD 0/\l[k]?.getD 0<256:=by
 by_cases hk:k<l.length
 ·simp[hk];exact h _ (List.getElem_mem hk)
 ·simp[List.getElem?_eq_none (Nat.le_of_not_lt hk)]
theorem isB_zeros(n:Nat):isB (List.replicate n 0):=by
 intro z hz;rw[List.mem_replicate]at hz;omega
theorem isB_dig(v:Int)(n:Nat):isB (dig v n):=by
 induction n generalizing v with
 | zero=>exact isB_nil
 | succ n ih=>rw[dig,isB_cons];exact⟨by omega,ih _⟩
theorem length_dig(v:Int)(n:Nat):(dig v n).length=n:=by
 induction n generalizing v with
 | zero=>rfl
 | succ n ih=>simp[dig,ih]
theorem num_nonneg{l:List Int}(h:isB l):0<=num l:=by
 induction l with
 | nil=>simp[num]
 | cons z r ih=>rw[isB_cons]at h;have:=ih h.2;simp only[num];omega
theorem num_lt{l:List Int}(h:isB l):num l<256 ^ l.length:=by
 induction l with
 | nil=>simp[num]
 | cons z r ih=>
  rw[isB_cons]at h
  have:=ih h.2
  simp only[num,List.length_cons,Int.pow_succ]
  omega
theorem num_dig(v:Int)(n:Nat)(h0:0<=v)(h:v<256 ^ n):num (dig v n)=v:=by
 induction n generalizing v with
 | zero=>simp at h;simp[dig,num];omega
 | succ n ih=>
  rw[Int.pow_succ]at h
  simp only[dig,num]
  rw[ih (v / 256) (by omega) (by omega)]
  omega
/-! ### the walk's own forms -/
theorem num_step(h:k<zs.length):num (zs.drop k)=zs[k]?.getD 0+256 * num (zs.drop (k+1)):=by
 rw[List.drop_eq_getElem_cons h,num];simp[h]
theorem pow8:(256:Int) ^ 8=18446744073709551616:=by decide
theorem lor_add(a b:Nat)(h:b<256):(a * 256) ||| b=a * 256+b:=by
 have:=Nat.shiftLeft_add_eq_or_of_lt (i:=8) (b:=b) (by simpa using h) a
 rw[Nat.shiftLeft_eq]at this
 simpa using this.symm
/-! ### the sum -/
def poly:Nat:=2197175160
def step1 (s:Nat):Nat:=if s % 2=1 then (s / 2) ^^^ poly else s / 2
def stepN:Nat->Nat->Nat
 | 0,s=>s
 | n+1,s=>stepN n (step1 s)
def sumB (s b:Nat):Nat:=stepN 8 (s ^^^ b)
def sums (s:Nat) (l:List Nat):Nat:=l.foldl sumB s
theorem step1_xor(a b:Nat):step1 (a ^^^ b)=step1 a ^^^ step1 b:=by
 have h2:(a ^^^ b) / 2=a / 2 ^^^ b / 2:=by
  have:=Nat.shiftRight_xor_distrib (a:=a) (b:=b) (i:=1)
  simpa [Nat.shiftRight_eq_div_pow] using this
 have hm:(a ^^^ b) % 2=(a+b) % 2:=by
  have h:=Nat.testBit_xor a b 0
  rw[Nat.testBit_zero,Nat.testBit_zero,Nat.testBit_zero]at h
  rw[Nat.add_mod]
  have hx:=Nat.mod_two_eq_zero_or_one (a ^^^ b)
  have ha:=Nat.mod_two_eq_zero_or_one a
  have hb:=Nat.mod_two_eq_zero_or_one b
  generalize (a ^^^ b) % 2=x at *
  generalize a % 2=y at *
  generalize b % 2=z at *
  rcases hx with rfl | rfl <;> rcases ha with rfl | rfl <;> rcases hb with rfl | rfl <;> first | rfl | (revert h;decide)
 unfold step1
 rw[h2,hm]
 rcases Nat.mod_two_eq_zero_or_one a with ha | ha <;> rcases Nat.mod_two_eq_zero_or_one b with hb | hb
 ·rw[if_neg (by omega),if_neg (by omega),if_neg (by omega)]
 ·rw[if_pos (by omega),if_neg (by omega),if_pos (by omega),Nat.xor_assoc]
 ·rw[if_pos (by omega),if_pos (by omega),if_neg (by omega),Nat.xor_assoc,Nat.xor_assoc,Nat.xor_comm poly]
 ·rw[if_neg (by omega),if_pos (by omega),if_pos (by omega)]
  rw[Nat.xor_assoc,<- Nat.xor_assoc poly,Nat.xor_comm poly,Nat.xor_assoc (b / 2),Nat.xor_self,Nat.xor_zero]
theorem stepN_xor(n a b:Nat):stepN n (a ^^^ b)=stepN n a ^^^ stepN n b:=by
 induction n generalizing a b with
 | zero=>rfl
 | succ n ih=>simp only[stepN,step1_xor,ih]
theorem stepN_add(m n s:Nat):stepN (m+n) s=stepN n (stepN m s):=by
 induction m generalizing s with
 | zero=>simp[stepN]
 | succ m ih=>rw[Nat.succ_add];simp only[stepN];exact ih _
theorem stepN_mul(n s:Nat):stepN n (s * 2 ^ n)=s:=by
 induction n with
 | zero=>simp[stepN]
 | succ n ih=>
  have e:s * 2 ^ (n+1)=s * 2 ^ n * 2:=by rw[Nat.pow_succ,Nat.mul_assoc]
  have:step1 (s * 2 ^ (n+1))=s * 2 ^ n:=by
   unfold step1;rw[e,if_neg (by omega)];omega
  rw[stepN,this,ih]
theorem split16(s:Nat):s=(s / 16 * 16) ^^^ (s % 16):=by
 have h:(s / 16) * 16 ||| (s % 16)=s / 16 * 16+s % 16:=by
  have:=Nat.shiftLeft_add_eq_or_of_lt (i:=4) (b:=s % 16) (Nat.mod_lt _ (by decide)) (s / 16)
  rw[Nat.shiftLeft_eq]at this
  simpa using this.symm
 have hx:(s / 16) * 16 ^^^ (s % 16)=(s / 16) * 16 ||| (s % 16):=by
  apply Nat.eq_of_testBit_eq
  intro i
  rw[Nat.testBit_xor,Nat.testBit_or]
  have h1:(s / 16 * 16).testBit i=(decide (4<=i) && (s / 16).testBit (i-4)):=by
   have:=Nat.testBit_mul_two_pow (s / 16) i 4
   simpa using this
  have h2:(s % 16).testBit i=(decide (i<4) && s.testBit i):=by
   have:=Nat.testBit_mod_two_pow s 4 i
   simpa using this
  rw[h1,h2]
  by_cases hi:i<4
  ·have:¬4<=i:=by omega
   simp[this]
  ·simp[hi]
 rw[hx,h];omega
theorem step4(s:Nat):stepN 4 s=(s / 16) ^^^ stepN 4 (s % 16):=by
 have h:=stepN_xor 4 (s / 16 * 16) (s % 16)
 rw[<- split16]at h
 rw[h,show s / 16 * 16=s / 16 * 2 ^ 4 from by omega,stepN_mul]
theorem step8(s:Nat):stepN 8 s=stepN 4 (stepN 4 s):=stepN_add 4 4 s
theorem poly_lt:poly<4294967296:=by decide
theorem step1_lt{s:Nat}(h:s<4294967296):step1 s<4294967296:=by
 unfold step1
 split
 ·exact Nat.xor_lt_two_pow (n:=32) (by omega) poly_lt
 ·omega
theorem stepN_lt(n:Nat){s:Nat}(h:s<4294967296):stepN n s<4294967296:=by
 induction n generalizing s with
 | zero=>exact h
 | succ n ih=>exact ih (step1_lt h)
theorem sumB_lt{s:Nat}(h:s<4294967296)(hb:b<256):sumB s b<4294967296 :=
 stepN_lt 8 (Nat.xor_lt_two_pow (n:=32) h (by omega))
end Go.Proofs.YtlefjidbpjkhlaaGreat.Pl
namespace Go.Proofs.YtlefjidbpjkhlaaGreat
variable {w w':World}
variable {ys zs:List Int}
variable {B c e j k n p:Nat}
variable {xs:List Value}
variable {P:Program}
variable {a:Option Addr}
variable {X Y:Nat->Prop}
variable {lv mv pv v:Value}
variable {fu:Int}
variable {off:Bool}
open Go.RowKit
def Blk (k:IntKind) (e:TypeId) (w:World) (g:Nat) (zs:List Int):Prop:=w.heap[g]?=some (.cells (zs.map (Value.int k)).toArray e (0,0))
theorem Blk.lt{k:IntKind}{e:TypeId}{g:Nat}(h:Blk k e w g zs):g<w.heap.size:=by
 unfold Blk at h
 exact (Array.getElem?_eq_some_iff.1 h).1
theorem Blk.cell{k:IntKind}{e:TypeId}{g:Nat}(h:Blk k e w g zs)(t:Nat)(ht:t<zs.length):w.cell? ⟨g,t,none⟩=some (.int k (zs.getD t 0)):=by
 unfold Blk at h
 simp[World.cell?,h,ht]
theorem Blk.frozen{k:IntKind}{e:TypeId}{g:Nat}(h:Blk k e w g zs)(t:Nat):w.frozen? ⟨g,t,none⟩=false:=by
 unfold Blk at h
 simp[World.frozen?,h]
theorem Blk.set{k:IntKind}{e:TypeId}{g:Nat}(h:Blk k e w g zs)(t:Nat)(x:Int):Blk k e (w.setCell ⟨g,t,none⟩ (.int k x)) g (zs.set t x):=by
 unfold Blk at *
 simp only[World.setCell,Array.getElem?_modify]
 rw[h]
 simp
theorem Blk.of_block{k:IntKind}{e:TypeId}{g:Nat}(h:Blk k e w g zs)(hw:w'.heap[g]?=w.heap[g]?):Blk k e w' g zs:=by
 unfold Blk at *;rw[hw];exact h
theorem Blk.below{k:IntKind}{e:TypeId}{g:Nat}(h:Blk k e w g zs)(hb:Below B w w')(hg:g<B):Blk k e w' g zs:=h.of_block (hb.block g hg)
theorem Blk.alloc{k:IntKind}{e:TypeId}{g:Nat}(h:Blk k e w g zs)(o:Obj):Blk k e (w.alloc o) g zs:=h.of_block (Below.heap_alloc _ _ _ h.lt)
theorem Blk.drew{k:IntKind}{e:TypeId}{g:Nat}(h:Blk k e w g zs):Blk k e w.drew g zs:=h
theorem Blk.new{k:IntKind}{e:TypeId}(w:World)(zs:List Int):Blk k e (w.alloc (.cells (zs.map (Value.int k)).toArray e (0,0))) w.heap.size zs:=by
 unfold Blk
 show (w.heap.push _)[w.heap.size]?=_
 simp
theorem Blk.of_owns{k:IntKind}{e:TypeId}{base g:Nat}(h:w.ownsRow base e 1 (.slice (some ⟨g,0,none⟩) n n) n xs)(hx:xs=zs.map (Value.int k)):Blk k e w g zs:=by
 obtain⟨_,h2⟩:=h
 rcases h2 with ⟨h2,_⟩ | ⟨g',cap,cur,hv,_,hh,_,_,hs,ht⟩
 ·cases h2
 ·simp at hv
  obtain⟨rfl,rfl⟩:=hv
  unfold Blk
  rw[hh,<- hx,<- ht]
  congr 2
  simp at hs
  rw[List.take_of_length_le (by simp[hs])]
theorem grown_set{g:Nat}(h:w.grownBy w' (some g)){p:Addr}(hp:p.block=g)(u:Value):w.grownBy (w'.setCell p u) (some g) :=
 ⟨h.os,h.tape,h.output,by simpa [World.setCell] using h.size,fun k hk hne=>by
  rw[Below.heap_setCell _ _ _ _ (by intro e;apply hne;rw[e,hp])];exact h.block k hk hne⟩
/-! ### splice -/
theorem splice_nil(L:List Int)(off:Nat):splice L off []=L:=by simp[splice]
theorem splice_cons(L:List Int)(off:Nat)(x:Int)(r:List Int)(h:off<L.length):splice L off (x :: r)=splice (L.set off x) (off+1) r:=by
 unfold splice
 have e1:(L.set off x).take (off+1)=L.take off++[x]:=by
  rw[List.take_succ_eq_append_getElem (by simpa using h),List.take_set_of_le (Nat.le_refl _)]
  simp
 rw[e1,List.drop_set_of_lt (by omega)]
 simp[Nat.add_comm,Nat.add_left_comm]
theorem isB_splice{L cs:List Int}(h:Pl.isB L)(h2:Pl.isB cs)(off:Nat):Pl.isB (splice L off cs):=by
 unfold splice
 exact Pl.isB_append.2 ⟨Pl.isB_take h _,Pl.isB_append.2 ⟨h2,Pl.isB_drop h _⟩⟩
theorem poz{f:FuncId}{gs:Array Value}{Q:Ending->World->Prop}(h:∀PO:Ending->World->Prop,PO=Q->Calls P f gs w PO):Calls P f gs w Q:=h Q rfl
open Go.RowKit
def Rd (B:Nat) (w:World) (a:Option Addr) (n:Nat) (zs:List Int):Prop :=
 zs.length=n/\Pl.isB zs/\(n=0\/∃b off,a=some ⟨b,off,none⟩/\b<B/\∀t,t<n->w.cell? ⟨b,off+t,none⟩=some (.int .u8 (zs.getD t 0)))
theorem Rd.below(h:Rd B w a n zs)(hb:Below B w w'):Rd B w' a n zs:=by
 obtain⟨h1,h2,h3⟩:=h
 refine⟨h1,h2,?_⟩
 rcases h3 with h3 | ⟨b,off,rfl,hlt,hc⟩
 ·exact .inl h3
 ·exact .inr ⟨b,off,rfl,hlt,fun t ht=>(hb.cell (by exact hlt)).trans (hc t ht)⟩
theorem Rd.mono{B':Nat}(h:Rd B w a n zs)(hb:B<=B'):Rd B' w a n zs:=by
 obtain⟨h1,h2,h3⟩:=h
 refine⟨h1,h2,?_⟩
 rcases h3 with h3 | ⟨b,off,rfl,hlt,hc⟩
 ·exact .inl h3
 ·exact .inr ⟨b,off,rfl,by omega,hc⟩
open Go.RowKit
theorem info5:(Tryz.prog.info? 5).map (fun i=>(i.zero,i.size,i.bytes))=some (some (.int .u8 0),1,1):=by kernel_rfl
theorem info3:(Tryz.prog.info? 3).map (fun i=>(i.zero,i.size,i.bytes))=some (some (.int .i64 0),1,8):=by kernel_rfl
def zeros (n:Nat):List Int:=List.replicate n 0
theorem length_zeros(n:Nat):(zeros n).length=n:=by simp[zeros]
theorem isB_zeros(n:Nat):Pl.isB (zeros n):=Pl.isB_zeros n
theorem made_zeros(k:IntKind)(n:Nat):madeCells #[.int k 0] n=((zeros n).map (Value.int k)).toArray:=by
 rw[<- Array.toList_inj,toList_madeCells_one]
 simp[zeros]
theorem make_u8(n:Nat)(hn:n<=1073741824)(u:World):(Instr.makeSlice 65 (.int .i64 (n:Int)) (.int .i64 (n:Int))).run Tryz.prog u =
  .ok (.slice (some ⟨u.heap.size,0,none⟩) n n) (u.alloc (.cells ((zeros n).map (Value.int .u8)).toArray 5)):=by
 obtain⟨i0,hi,hz0,hz1,hz2⟩:=info_parts info5
 have h:=run_make (P:=Tryz.prog) u 65 5 i0 (.int .u8 0) Tryz.underlying65 hi hz0 .i64 .i64 (n:Int) (n:Int) (by omega) (Int.le_refl _) (by rw[hz2];omega) (by omega)
 have e:((n:Int)).toNat=n:=by omega
 rw[e]at h
 rw[<- made_zeros]
 simpa [hz1,Value.cells] using h
theorem make_i64(n:Nat)(hn:n<=1073741824)(u:World):(Instr.makeSlice 37 (.int .i64 (n:Int)) (.int .i64 (n:Int))).run Tryz.prog u =
  .ok (.slice (some ⟨u.heap.size,0,none⟩) n n) (u.alloc (.cells ((zeros n).map (Value.int .i64)).toArray 3)):=by
 obtain⟨i0,hi,hz0,hz1,hz2⟩:=info_parts info3
 have h:=run_make (P:=Tryz.prog) u 37 3 i0 (.int .i64 0) Tryz.underlying37 hi hz0 .i64 .i64 (n:Int) (n:Int) (by omega) (Int.le_refl _) (by rw[hz2];omega) (by omega)
 have e:((n:Int)).toNat=n:=by omega
 rw[e]at h
 rw[<- made_zeros]
 simpa [hz1,Value.cells] using h
theorem size5:(Tryz.prog.info? 5).map (·.size)=some 1:=by kernel_rfl
theorem Rd.src(h:Rd B w a n zs)(h0:0<n):∃ad,a=some ad/\∀j v,(zs.map (Value.int .u8))[j]?=some v->w.cell? (ad.add j)=some v:=by
 obtain⟨h1,h2,h3⟩:=h
 rcases h3 with h3 | ⟨b,off,rfl,hlt,hc⟩
 ·omega
 ·refine⟨_,rfl,fun j v hv=>?_⟩
  rw[List.getElem?_map]at hv
  cases hz:zs[j]? with
  | none=>rw[hz]at hv;cases hv
  | some z=>
   rw[hz]at hv
   simp at hv
   subst hv
   have hj:j<zs.length:=(List.getElem?_eq_some_iff.1 hz).1
   have:=hc j (by omega)
   rw[List.getD_eq_getElem?_getD,hz]at this
   rw[show (⟨b,off,none⟩:Addr).add j=⟨b,off+j,none⟩ from by unfold Addr.add;split <;> simp_all]
   exact this
theorem u8_one(zs:List Int):∀v∈zs.map (Value.int .u8),v.oneCell'=true:=ints_oneCell _ _
theorem splice_map(zs cs:List Int)(off:Nat)(k:IntKind):splice (zs.map (Value.int k)) off (cs.map (Value.int k))=(splice zs off cs).map (Value.int k):=by simp[splice]
theorem copy_u8(g off dLen dCap:Nat)(a:Option Addr)(n c:Nat)(Y body:List Int)(w:World)(Bn:Nat)(hB:Blk .u8 5 w g Y)(hR:Rd Bn w a n body)(hn:n<=dLen)(hfit:off+n<=Y.length) :
  ∃w',Sem.run Tryz.prog (Builtin.copy_ #[65,65] 3 #[.slice (some ⟨g,off,none⟩) dLen dCap,.slice a n c]) w=.ok (.int .i64 (n:Int)) w'/\Blk .u8 5 w' g (splice Y off body)/\w'.heap.size=w.heap.size/\w.grownBy w' (some g):=by
 have hl:=hR.1
 by_cases h0:n=0
 ·subst h0
  obtain rfl:body=[]:=List.length_eq_zero_iff.1 hl
  exact⟨w,run_copy_none (P:=Tryz.prog) w 65 65 3 5 _ _ dLen dCap 0 c Tryz.underlying65 size5 (Nat.zero_min _),by rw[splice_nil];exact hB,rfl,World.grownBy.refl _ _⟩
 ·obtain⟨ad,rfl,hsrc⟩:=hR.src (by omega)
  have h:=run_copy_row (P:=Tryz.prog) w 65 65 3 5 g off dLen dCap ad n c (Y.map (Value.int .u8)).toArray 5 (body.map (Value.int .u8)) Tryz.underlying65 size5 hB (by rw[List.length_map,hl];exact (Nat.min_eq_left hn).symm) hsrc (by simp;omega) (u8_one _)
  refine⟨w.setRow g ((splice Y off body).map (Value.int .u8)).toArray,h.trans ?_,?_,by simp,⟨rfl,rfl,rfl,by simp,fun k _ hk=>setRow_other w g k _ (fun e=>hk (by rw[e]))⟩⟩
  ·rw[<- splice_map,List.length_map,hl]
   simp[splice,hl,goInt]
  ·unfold Blk
   exact setRow_heap w g _ _ 5 _ hB
open Go.RowKit
theorem hid{p:Prop}(h:p):Hid p:=h
theorem take_snoc{L:List Int}(h:j<L.length):L.take (j+1)=L.take j++[L[j]?.getD 0]:=by
 rw[List.take_succ_eq_append_getElem h];simp[h]
structure But (X:Nat->Prop) (w w':World):Prop where
 os:w'.os=w.os
 tape:w'.tape=w.tape
 output:w'.output=w.output
 size:w.heap.size<=w'.heap.size
 block:∀k,k<w.heap.size->¬X k->w'.heap[k]?=w.heap[k]?
theorem But.refl(X:Nat->Prop)(w:World):But X w w:=⟨rfl,rfl,rfl,Nat.le_refl _,fun _ _ _=>rfl⟩
theorem But.trans{a b c:World}(h:But X a b)(k:But X b c):But X a c :=
 ⟨k.os.trans h.os,k.tape.trans h.tape,k.output.trans h.output,Nat.le_trans h.size k.size,fun i hi hx=>(k.block i (Nat.lt_of_lt_of_le hi h.size) hx).trans (h.block i hi hx)⟩
theorem But.mono(h:But X w w')(hX:∀k,k<w.heap.size->X k->Y k):But Y w w' :=
 ⟨h.os,h.tape,h.output,h.size,fun k hk hy=>h.block k hk (fun hx=>hy (hX k hk hx))⟩
theorem But.drew{a:World}(h:But X a w):But X a w.drew:=⟨h.os,h.tape,h.output,h.size,h.block⟩
theorem But.alloc{a:World}(h:But X a w)(o:Obj):But X a (w.alloc o) :=
 h.trans ⟨rfl,rfl,rfl,by simp,fun k hk _=>Below.heap_alloc _ _ _ hk⟩
theorem But.setCell{a:World}(h:But X a w){p:Addr}(hp:X p.block)(u:Value):But X a (w.setCell p u) :=
 h.trans ⟨rfl,rfl,rfl,by simp[World.setCell],fun k _ hx=>Below.heap_setCell _ _ _ _ (fun e=>hx (e ▸ hp))⟩
theorem But.of_below(h:Below w.heap.size w w'):But X w w':=⟨h.os,h.tape,h.output,h.size,fun k hk _=>h.block k hk⟩
theorem But.below(h:But X w w')(hB:B<=w.heap.size)(hX:∀k,k<B->¬X k):Below B w w' :=
 ⟨h.os,h.tape,h.output,h.size,fun k hk=>h.block k (by omega) (hX k hk)⟩
theorem But.cell(h:But X w w'){p:Addr}(hp:p.block<w.heap.size)(hx:¬X p.block):w'.cell? p=w.cell? p:=World.cell?_of_block (w:=w) (h.block p.block hp hx)
def RdN (X:Nat->Prop) (w:World) (a:Option Addr) (n:Nat) (zs:List Int):Prop :=
 zs.length=n/\Pl.isB zs/\(n=0\/∃b off,a=some ⟨b,off,none⟩/\b<w.heap.size/\¬X b/\∀t,t<n->w.cell? ⟨b,off+t,none⟩=some (.int .u8 (zs.getD t 0)))
theorem RdN.rd(h:RdN X w a n zs):Rd w.heap.size w a n zs:=by
 obtain⟨h1,h2,h3⟩:=h
 refine⟨h1,h2,?_⟩
 rcases h3 with h3 | ⟨b,off,h4,h5,h6,h7⟩
 ·exact .inl h3
 ·exact .inr ⟨b,off,h4,h5,h7⟩
theorem RdN.but(h:RdN X w a n zs)(hb:But X w w'):RdN X w' a n zs:=by
 obtain⟨h1,h2,h3⟩:=h
 refine⟨h1,h2,?_⟩
 rcases h3 with h3 | ⟨b,off,h4,h5,h6,h7⟩
 ·exact .inl h3
 ·exact .inr ⟨b,off,h4,Nat.lt_of_lt_of_le h5 hb.size,h6,fun t ht=>(hb.cell (by exact h5) (by exact h6)).trans (h7 t ht)⟩
theorem RdN.mono(h:RdN X w a n zs)(hX:∀k,k<w.heap.size->Y k->X k):RdN Y w a n zs:=by
 obtain⟨h1,h2,h3⟩:=h
 refine⟨h1,h2,?_⟩
 rcases h3 with h3 | ⟨b,off,h4,h5,h6,h7⟩
 ·exact .inl h3
 ·exact .inr ⟨b,off,h4,h5,fun hy=>h6 (hX b h5 hy),h7⟩
theorem RdN.of_blk{g:Nat}(h:Blk .u8 5 w g zs)(hb:Pl.isB zs)(hX:¬X g):RdN X w (some ⟨g,0,none⟩) zs.length zs :=
 ⟨rfl,hb,.inr ⟨g,0,rfl,h.lt,hX,fun t ht=>by rw[Nat.zero_add];exact h.cell t ht⟩⟩
/-! ### the lender -/
theorem take_set{z:Int}{l:List Int}(h:k<ys.length)(h2:k<l.length)(he:ys.take k=l.take k)(hz:z=l.getD k 0):(ys.set k z).take (k+1)=l.take (k+1):=by
 rw[take_snoc (L:=l) h2,<- he,List.take_succ_eq_append_getElem (by simpa using h),List.take_set_of_le (Nat.le_refl _),hz]
 simp
theorem But.comp{a b c:World}(h:But X a b)(k:But Y b c)(hY:∀x,x<a.heap.size->Y x->X x):But X a c :=
 ⟨k.os.trans h.os,k.tape.trans h.tape,k.output.trans h.output,Nat.le_trans h.size k.size,fun i hi hx=>(k.block i (Nat.lt_of_lt_of_le hi h.size) (fun hy=>hx (hY i hi hy))).trans (h.block i hi hx)⟩
def RdI (B:Nat) (w:World) (a:Option Addr) (m:Nat) (ws:List Int):Prop :=
 ws.length=m/\(m=0\/∃b off,a=some ⟨b,off,none⟩/\b<B/\∀t,t<m->w.cell? ⟨b,off+t,none⟩=some (.int .i64 (ws.getD t 0)))
theorem Rd.of_blk{g:Nat}(h:Blk .u8 5 w g zs)(hb:Pl.isB zs)(hB:g<B):Rd B w (some ⟨g,0,none⟩) zs.length zs :=
 ⟨rfl,hb,.inr ⟨g,0,rfl,hB,fun t ht=>by rw[Nat.zero_add];exact h.cell t ht⟩⟩
open Go.RowKit
theorem owns_form{base size:Nat}(h:w.ownsRow base e size v n xs)(hv:v≠.slice none 0 0):∃g cap,v=.slice (some ⟨g,0,none⟩) n cap/\base<=g/\n<=cap:=by
 rcases h.2 with ⟨h1,_⟩ | ⟨g,cap,cur,h1,h2,_,h3,_⟩
 ·exact absurd h1 hv
 ·exact⟨g,cap,h1,h2,h3⟩
def Own (w:World) (g n cap:Nat) (zs:List Int):Prop:=w.ownsRow g 5 1 (.slice (some ⟨g,0,none⟩) n cap) n (zs.map (Value.int .u8))
theorem Own.of{base g cap:Nat}(h:w.ownsRow base 5 1 (.slice (some ⟨g,0,none⟩) n cap) n (zs.map (Value.int .u8))):Own w g n cap zs:=by
 obtain⟨h1,h2⟩:=h
 refine⟨h1,?_⟩
 rcases h2 with ⟨h2,_⟩ | ⟨g',cap',cur,hv,_,r⟩
 ·cases h2
 ·simp at hv
  obtain⟨rfl,rfl⟩:=hv
  exact .inr ⟨g,cap,cur,rfl,Nat.le_refl _,r⟩
theorem Own.len{g cap:Nat}(h:Own w g n cap zs):zs.length=n:=by simpa using h.1
theorem Own.cell{g cap:Nat}(h:Own w g n cap zs)(t:Nat)(ht:t<n):w.cell? ⟨g,t,none⟩=some (.int .u8 (zs.getD t 0)):=by
 have h2:=World.ownsRow.cellAt h t (by omega)
 have h3:=h.len
 rw[h2]
 simp[show t<zs.length by omega]
theorem Own.lt{g cap:Nat}(h:Own w g n cap zs):g<w.heap.size:=(World.ownsRow.lt h g rfl).2
theorem Own.set{g cap:Nat}(h:Own w g n cap zs)(t:Nat)(x:Int):Own (w.setCell ⟨g,t,none⟩ (.int .u8 x)) g n cap (zs.set t x):=by
 have h2:=(World.ownsRow.stored h t (.int .u8 x)).1
 unfold Own
 rw[List.map_set]
 exact h2
theorem Own.rdn{g cap:Nat}(h:Own w g n cap zs)(hb:Pl.isB zs)(hx:¬X g):RdN X w (some ⟨g,0,none⟩) n zs :=
 ⟨h.len,hb,.inr ⟨g,0,rfl,h.lt,hx,fun t ht=>by rw[Nat.zero_add];exact h.cell t ht⟩⟩
theorem Own.rd{g cap:Nat}(h:Own w g n cap zs)(hb:Pl.isB zs):Rd w.heap.size w (some ⟨g,0,none⟩) n zs:=(h.rdn (X:=fun _=>False) hb (fun h=>h)).rd
theorem Own.cap{g cap:Nat}(h:Own w g n cap zs):n<=cap:=by
 obtain⟨_,_,e,_,hc⟩:=owns_form h (by intro h;cases h)
 simp at e
 omega
theorem owns_below{base size:Nat}(h:w.ownsRow base e size v n xs)(hb:Below w.heap.size w w'):w'.ownsRow base e size v n xs:=by
 obtain⟨h1,h2⟩:=h
 refine⟨h1,?_⟩
 rcases h2 with h2 | ⟨g,cap,cur,hv,hg,hh,r⟩
 ·exact .inl h2
 ·refine .inr ⟨g,cap,cur,hv,hg,?_,r⟩
  rw[hb.block g (Array.getElem?_eq_some_iff.1 hh).1]
  exact hh
theorem owns_slice{base size:Nat}(h:w.ownsRow base e size v n xs):∃a c,v=.slice a n c/\(a=none->c=0):=by
 rcases h.2 with ⟨h1,h2⟩ | ⟨g,cap,cur,h1,_⟩
 ·subst h2;exact⟨none,0,h1,fun _=>rfl⟩
 ·exact⟨_,cap,h1,fun h=>by cases h⟩
theorem owns_setCell{base size:Nat}(h:w.ownsRow base e size v n xs){p:Addr}(hp:v.ownBlock≠some p.block)(u:Value):(w.setCell p u).ownsRow base e size v n xs:=by
 obtain⟨h1,h2⟩:=h
 refine⟨h1,?_⟩
 rcases h2 with h2 | ⟨g,cap,cur,rfl,hg,hh,r⟩
 ·exact .inl h2
 ·exact .inr ⟨g,cap,cur,rfl,hg,by rw[Below.heap_setCell _ _ _ _ (fun e=>hp (by rw[<- e];rfl))];exact hh,r⟩
theorem owns_keep{base size:Nat}(h:w.ownsRow base e size v n xs)(hk:∀g,v.ownBlock=some g->w'.heap[g]?=w.heap[g]?):w'.ownsRow base e size v n xs:=by
 obtain⟨h1,h2⟩:=h
 refine⟨h1,?_⟩
 rcases h2 with h2 | ⟨g,cap,cur,rfl,hg,hh,r⟩
 ·exact .inl h2
 ·exact .inr ⟨g,cap,cur,rfl,hg,by rw[hk g rfl];exact hh,r⟩
theorem But.of_grown{a:World}{row:Option Nat}(h:But X a w)(hg:w.grownBy w' row)(hr:∀x,row=some x->x<a.heap.size->X x):But X a w' :=
 ⟨hg.os.trans h.os,hg.tape.trans h.tape,hg.output.trans h.output,Nat.le_trans h.size hg.size,fun k hk hx=>(hg.block k (Nat.lt_of_lt_of_le hk h.size) (fun e=>hx (hr k e.symm hk))).trans (h.block k hk hx)⟩
theorem Own.below{g cap:Nat}(h:Own w g n cap zs)(hb:Below w.heap.size w w'):Own w' g n cap zs:=owns_below h hb
theorem But.step{a:World}(h:But X a w)(k:But Y w w')(hx:∀x,x<a.heap.size->Y x->X x):But X a w' :=
 ⟨k.os.trans h.os,k.tape.trans h.tape,k.output.trans h.output,Nat.le_trans h.size k.size,fun x hxa hX=>(k.block x (Nat.lt_of_lt_of_le hxa h.size) (fun hy=>hX (hx x hxa hy))).trans (h.block x hxa hX)⟩
def OwI (B:Nat) (w:World) (o:Value) (n:Nat) (zs:List Int):Prop:=w.ownsRow B 3 1 o n (zs.map (Value.int .i64))
theorem OwI.len{o:Value}(h:OwI B w o n zs):zs.length=n:=by simpa using h.1
open Go.RowKit
theorem conv_str(h:Rd B w a n zs)(c:Nat):(convert 65 9 (.slice a n c)).run Tryz.prog w=.ok (.string (strOfNums zs)) w:=by
 obtain⟨h1,h2,h3⟩:=h
 rcases h3 with rfl | ⟨b,off,rfl,hlt,hc⟩
 ·obtain rfl:zs=[]:=List.length_eq_zero_iff.1 h1
  cases a with
  | none=>exact run_convert_bytes_nil w 65 5 Tryz.underlying65 Tryz.underlying5 0 c 9 Tryz.underlying9
  | some ad=>
   have hl:(loadCells ad 0).run Tryz.prog w=.ok ([].map (Value.int .u8)).toArray w:=by simpa using run_loadCells_list (P:=Tryz.prog) w ad [] (by simp)
   rw[run_convert_bytes_string w 65 9 5 _ 0 c Tryz.underlying65 Tryz.underlying5 Tryz.underlying9,run_bytesToString w ad 0 c [] hl]
   rfl
 ·exact run_convert_bytes_arg w 65 5 Tryz.underlying65 Tryz.underlying5 b off n c zs h1 hc 9 Tryz.underlying9
open Go.RowKit
def Dkb (w:World) (p:Nat) (lv pv mv:Value) (fu:Int) (off:Bool):Prop:=w.heap[p]?=some (.cells #[lv,pv,mv,.int .i64 fu,.bool off] 174 (0,0))
theorem Dkb.lt(h:Dkb w p lv pv mv fu off):p<w.heap.size:=(Array.getElem?_eq_some_iff.1 h).1
theorem Dkb.cell(h:Dkb w p lv pv mv fu off)(t:Nat):w.cell? ⟨p,t,none⟩=#[lv,pv,mv,.int .i64 fu,.bool off][t]?:=by
 unfold Dkb at h
 simp[World.cell?,h]
theorem Dkb.frozen(h:Dkb w p lv pv mv fu off)(t:Nat):w.frozen? ⟨p,t,none⟩=false:=by
 unfold Dkb at h
 simp[World.frozen?,h]
theorem Dkb.of_block(h:Dkb w p lv pv mv fu off)(hw:w'.heap[p]?=w.heap[p]?):Dkb w' p lv pv mv fu off:=hw.trans h
theorem Dkb.set(h:Dkb w p lv pv mv fu off)(t:Nat)(v:Value):(w.setCell ⟨p,t,none⟩ v).heap[p]?=some (.cells (#[lv,pv,mv,.int .i64 fu,.bool off].setIfInBounds t v) 174 (0,0)):=by
 unfold Dkb at h
 simp only[World.setCell,Array.getElem?_modify]
 rw[h]
 simp
theorem below_drewN{a:World}(h:Below B a w)(q:Nat):Below B a (w.drewN q):=⟨h.os,h.tape,h.output,h.size,h.block⟩
theorem powerIsOn_any(h:Dkb w p lv pv mv fu off) :
  Calls Tryz.prog 157 #[.pointer (some ⟨p,0,none⟩)] w fun e w'=>e=.returned (.int .i64 (if off then 24 else 0))/\w'=w:=by
 have q4:=h.cell 4
 simp only[List.getElem?_toArray,List.getElem?_cons_succ,List.getElem?_cons_zero]at q4
 go_enter Tryz.func157,Tryz.ntmps157
 cases off <;> go_wp2 <;> go_ret <;> exact⟨rfl,rfl⟩
theorem count_any{nb:Nat}(hn:nb<=524288)(h:Dkb w p (.slice a (512 * nb) c) pv mv fu off) :
  Calls Tryz.prog 216 #[.pointer (some ⟨p,0,none⟩)] w fun e w'=>e=.returned (.int .i64 (nb:Int))/\w'=w:=by
 have q0:=h.cell 0
 simp only[List.getElem?_toArray,List.getElem?_cons_zero]at q0
 have e1:((512 * nb:Nat):Int).tdiv 512=(nb:Int):=by
  rw[Int.tdiv_eq_ediv_of_nonneg (by omega)];omega
 go_enter Tryz.func216,Tryz.ntmps216
 go_wp2
 go_ret
 exact⟨rfl,rfl⟩
theorem goesThrough_none(h:Dkb w p lv pv mv (-1) off) :
  Calls Tryz.prog 159 #[.pointer (some ⟨p,0,none⟩)] w fun e w'=>e=.returned (.int .i64 0)/\w'=w:=by
 have q3:=h.cell 3
 simp only[List.getElem?_toArray,List.getElem?_cons_succ,List.getElem?_cons_zero]at q3
 go_enter Tryz.func159,Tryz.ntmps159
 go_wp2
 go_ret
 exact⟨rfl,rfl⟩
theorem goesThrough_zero(h:Dkb w p lv pv mv 0 off) :
  Calls Tryz.prog 159 #[.pointer (some ⟨p,0,none⟩)] w fun e w'=>e=.returned (.int .i64 24)/\w'=w.setCell ⟨p,4,none⟩ (.bool true):=by
 have q3:=h.cell 3
 have q4:=h.cell 4
 have f4:=h.frozen 4
 simp only[List.getElem?_toArray,List.getElem?_cons_succ,List.getElem?_cons_zero]at q3 q4
 go_enter Tryz.func159,Tryz.ntmps159
 go_wp2
 go_ret
 exact⟨rfl,rfl⟩
theorem goesThrough_some(h0:0<fu)(h1:fu<=9223372036854775807)(h:Dkb w p lv pv mv fu off) :
  Calls Tryz.prog 159 #[.pointer (some ⟨p,0,none⟩)] w fun e w'=>e=.returned (.int .i64 0)/\w'=w.setCell ⟨p,3,none⟩ (.int .i64 (fu-1)):=by
 have q3:=h.cell 3
 have f3:=h.frozen 3
 simp only[List.getElem?_toArray,List.getElem?_cons_succ,List.getElem?_cons_zero]at q3
 have n1:¬fu=-1:=by omega
 have n2:¬fu=0:=by omega
 go_enter Tryz.func159,Tryz.ntmps159
 go_wp2
 go_ret
 exact⟨rfl,rfl⟩
theorem isThere_any(x:Int)(w:World):Calls Tryz.prog 199 #[.int .i64 x] w fun e w'=>e=.returned (.func (.func 226) #[] #[.pointer (some ⟨w.heap.size,0,none⟩)])/\w'=w.alloc (.cells #[.int .i64 x] 3):=by
 go_enter Tryz.func199,Tryz.ntmps199
 go_wp2
 go_ret
 exact⟨rfl,rfl⟩
theorem isOneBlock_any(a:Option Addr)(n c:Nat)(w:World):Calls Tryz.prog 234 #[.slice a n c] w fun e w'=>e=.returned (.func (.func 239) #[] #[.pointer (some ⟨w.heap.size,0,none⟩)])/\w'=w.alloc (.cells #[.slice a n c] 65):=by
 go_enter Tryz.func234,Tryz.ntmps234
 go_wp2
 go_ret
 exact⟨rfl,rfl⟩
theorem isOneBlock1_any{cap:Nat}(pp:Value)(h:w.cell? ⟨c,0,none⟩=some (.slice a n cap)) :
  Calls Tryz.prog 239 #[pp,.pointer (some ⟨c,0,none⟩)] w fun e w'=>e=.returned (.int .i64 (if n≠512 then 23 else 0))/\w'=w:=by
 go_enter Tryz.func239,Tryz.ntmps239
 by_cases hx:n=512
 ·subst hx
  rw[if_neg (fun h=>h rfl)]
  go_wp2
  go_ret
  exact⟨rfl,rfl⟩
 ·have hx':¬(n:Int)=512:=by omega
  rw[if_pos hx]
  go_wp2
  go_ret
  exact⟨rfl,rfl⟩
theorem isThere1_any{x:Int}{nb cap:Nat}(hn:nb<=524288)(h:w.cell? ⟨c,0,none⟩=some (.int .i64 x))(hD:Dkb w p (.slice a (512 * nb) cap) pv mv fu off) :
  Calls Tryz.prog 226 #[.pointer (some ⟨p,0,none⟩),.pointer (some ⟨c,0,none⟩)] w fun e w'=>e=.returned (.int .i64 (if x<0\/(nb:Int)<=x then 22 else 0))/\Below w.heap.size w w':=by
 go_enter Tryz.func226,Tryz.ntmps226
 by_cases hx:x<0
 ·rw[if_pos (.inl hx)]
  go_wp2_with fail
  go_quiet (fail)
  go_wp2
  go_ret
  exact⟨rfl,below_drewN (Below.refl _ _) _⟩
 ·by_cases hx2:(nb:Int)<=x
  ·rw[if_pos (.inr hx2)]
   go_wp2_with fail
   go_quiet ((go_at_call 216;exact Calls.quiet_of_same (count_any hn hD)))
   go_wp2
   go_ret
   exact⟨rfl,below_drewN (Below.refl _ _) _⟩
  ·rw[if_neg (fun h=>h.elim hx hx2)]
   go_wp2_with fail
   go_quiet ((go_at_call 216;exact Calls.quiet_of_same (count_any hn hD)))
   go_wp2
   go_ret
   exact⟨rfl,below_drewN (Below.refl _ _) _⟩
theorem ask_none(w:World):Calls Tryz.prog 102 #[.pointer (some ⟨p,0,none⟩),.slice none 0 0] w fun e w'=>e=.returned (.int .i64 0)/\w'=w:=by
 go_enter Tryz.func102,Tryz.ntmps102
 go_wp2_with fail
 refine wp_loop_rounds 1 ?_
 rw[rounds_succ]
 go_wp2
 go_ret
 exact⟨rfl,rfl⟩
theorem ask_on(hD:Dkb w p lv pv mv fu off)(k0:w.cell? ⟨k,0,none⟩=some (.func (.func 157) #[] #[])) :
  Calls Tryz.prog 102 #[.pointer (some ⟨p,0,none⟩),.slice (some ⟨k,0,none⟩) 1 1] w fun e w'=>e=.returned (.int .i64 (if off then 24 else 0))/\w'=w:=by
 have H1:=hid (powerIsOn_any hD)
 clear hD
 go_enter Tryz.func102,Tryz.ntmps102
 cases off
 ·simp only[Bool.false_eq_true,if_false]at H1 ⊢
  go_wp2_with fail
  refine wp_loop_rounds 2 ?_
  rw[rounds_succ]
  go_wp2_with fail
  refine Calls.mono H1.out ?_
  rintro e w1 ⟨rfl,rfl⟩
  go_wp2_with fail
  rw[rounds_succ]
  go_wp2
  go_ret
  exact⟨rfl,rfl⟩
 ·simp only[if_true]at H1 ⊢
  go_wp2_with fail
  refine wp_loop_rounds 2 ?_
  rw[rounds_succ]
  go_wp2_with fail
  refine Calls.mono H1.out ?_
  rintro e w1 ⟨rfl,rfl⟩
  go_wp2
  go_ret
  exact⟨rfl,rfl⟩
end Go.Proofs.YtlefjidbpjkhlaaGreat
