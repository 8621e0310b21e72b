import Derived.Test.YtlefjidbpjkhlaaGreatD41
import Derived.Test.YtlefjidbpjkhlaaGreatD11
set_option maxRecDepth 100000
set_option maxHeartbeats 16000000
namespace Go.Proofs.YtlefjidbpjkhlaaGreat
variable {w:World}
variable {b f k m r st sz t x:Nat}
variable {lf:Int}
variable {PO:Ending->World->Prop}
open Go.RowKit Go.Deep
attribute [local go_sem] Oper.semAt_some
def ChC55 (w:World) (x f r st t sz b k s m:Nat) (lf:Int) (PO:Ending->World->Prop):Prop :=
 Calls Tryz.prog 86 #[.agg #[.pointer (some ⟨x,0,none⟩),.int .i64 (sz:Int),.int .i64 lf,.pointer (some ⟨t,0,none⟩)],.int .i64 (b:Int)] (w.alloc (.cells #[.pointer (some ⟨x,0,none⟩),.int .i64 (sz:Int),.int .i64 lf,.pointer (some ⟨t,0,none⟩)] 103)) fun e w1=>e=.returned (.bool true) /\
 ∀w2,w2=w1.drew->(w2.cell? ⟨w.heap.size,0,none⟩=some (.pointer (some ⟨x,0,none⟩))/\w2.cell? ⟨w.heap.size,1,none⟩=some (.int .i64 (sz:Int))/\w2.cell? ⟨w.heap.size,2,none⟩=some (.int .i64 lf)/\w2.cell? ⟨w.heap.size,3,none⟩=some (.pointer (some ⟨t,0,none⟩))/\w2.cell? ⟨x,0,none⟩=some (.int .i64 (f:Int))/\w2.cell? ⟨x,1,none⟩=some (.int .i64 (r:Int))/\w2.cell? ⟨x,2,none⟩=some (.pointer (some ⟨st,0,none⟩)))/\Hid (Calls Tryz.prog 89 #[.int .i64 (b:Int)] w2 fun e w'=>e=.returned (.int .i64 (k:Int))/\w'=w2)/\Calls Tryz.prog 88 #[.agg #[.int .i64 (f:Int),.int .i64 (r:Int)],.int .i64 (k:Int)] w2 fun e w3=>e=.returned (.int .i64 (m:Int))/\(w3.cell? ⟨w.heap.size,0,none⟩=some (.pointer (some ⟨x,0,none⟩))/\w3.cell? ⟨w.heap.size,1,none⟩=some (.int .i64 (sz:Int))/\w3.cell? ⟨w.heap.size,2,none⟩=some (.int .i64 lf)/\w3.cell? ⟨w.heap.size,3,none⟩=some (.pointer (some ⟨t,0,none⟩))/\w3.cell? ⟨x,0,none⟩=some (.int .i64 (f:Int))/\w3.cell? ⟨x,1,none⟩=some (.int .i64 (r:Int))/\w3.cell? ⟨x,2,none⟩=some (.pointer (some ⟨st,0,none⟩))) /\
 ∀w4,w4=w3.drew->(w4.cell? ⟨w.heap.size,0,none⟩=some (.pointer (some ⟨x,0,none⟩))/\w4.cell? ⟨w.heap.size,1,none⟩=some (.int .i64 (sz:Int))/\w4.cell? ⟨w.heap.size,2,none⟩=some (.int .i64 lf)/\w4.cell? ⟨w.heap.size,3,none⟩=some (.pointer (some ⟨t,0,none⟩))/\w4.cell? ⟨x,0,none⟩=some (.int .i64 (f:Int))/\w4.cell? ⟨x,1,none⟩=some (.int .i64 (r:Int))/\w4.cell? ⟨x,2,none⟩=some (.pointer (some ⟨st,0,none⟩)))/\Calls Tryz.prog 87 #[.agg #[.int .i64 (f:Int),.int .i64 (r:Int)],.iface 101 (.agg #[.pointer (some ⟨t,0,none⟩)]),.int .i64 (m:Int)] w4 fun e w5=>∃g cp was,e=.returned (.tuple #[.slice (some ⟨g,0,none⟩) 512 cp,.int .i64 0])/\(w5.cell? ⟨w.heap.size,0,none⟩=some (.pointer (some ⟨x,0,none⟩))/\w5.cell? ⟨w.heap.size,1,none⟩=some (.int .i64 (sz:Int))/\w5.cell? ⟨w.heap.size,2,none⟩=some (.int .i64 lf)/\w5.cell? ⟨w.heap.size,3,none⟩=some (.pointer (some ⟨t,0,none⟩))/\w5.cell? ⟨x,0,none⟩=some (.int .i64 (f:Int))/\w5.cell? ⟨x,1,none⟩=some (.int .i64 (r:Int))/\w5.cell? ⟨x,2,none⟩=some (.pointer (some ⟨st,0,none⟩)))/\(w5.cell? ⟨g,32+s,none⟩=some (.int .u8 was)/\0<=was/\was<=255)/\Hid (Calls Tryz.prog 90 #[.int .i64 (b:Int)] w5 fun e w'=>e=.returned (.int .i64 (s:Int))/\w'=w5) /\
 Calls Tryz.prog 55 #[.int .i64 was] w5 fun e w6=>∃cnt ev,e=.returned (.tuple #[.int .i64 cnt,.int .i64 ev])/\(¬ev=0->PO (.returned (.int .i64 ev)) w6)/\(ev=0->((0<=cnt/\cnt<=255)/\w6.cell? ⟨g,32+s,none⟩=some (.int .u8 was)/\w6.frozen? ⟨g,32+s,none⟩=false) /\
 ∀w7,w7=(w6.setCell ⟨g,32+s,none⟩ (.int .u8 cnt)).drew->(w7.cell? ⟨w.heap.size,0,none⟩=some (.pointer (some ⟨x,0,none⟩))/\w7.cell? ⟨w.heap.size,1,none⟩=some (.int .i64 (sz:Int))/\w7.cell? ⟨w.heap.size,2,none⟩=some (.int .i64 lf)/\w7.cell? ⟨w.heap.size,3,none⟩=some (.pointer (some ⟨t,0,none⟩))/\w7.cell? ⟨x,0,none⟩=some (.int .i64 (f:Int))/\w7.cell? ⟨x,1,none⟩=some (.int .i64 (r:Int))/\w7.cell? ⟨x,2,none⟩=some (.pointer (some ⟨st,0,none⟩)))/\(Hid (Calls Tryz.prog 89 #[.int .i64 (b:Int)] w7 fun e w'=>e=.returned (.int .i64 (k:Int))/\w'=w7)/\Hid (Calls Tryz.prog 99 #[.int .i64 cnt] w7 fun e w'=>e=.returned (.int .i64 (min cnt 1))/\w'=w7)/\Hid (Calls Tryz.prog 99 #[.int .i64 was] w7 fun e w'=>e=.returned (.int .i64 (min was 1))/\w'=w7))/\Calls Tryz.prog 98 #[.agg #[.pointer (some ⟨x,0,none⟩),.int .i64 (sz:Int),.int .i64 lf,.pointer (some ⟨t,0,none⟩)],.int .i64 (k:Int),.int .i64 (min cnt 1-min was 1)] w7 fun e w8=>e=.returned (.int .i64 0)/\(w8.cell? ⟨w.heap.size,0,none⟩=some (.pointer (some ⟨x,0,none⟩))/\w8.cell? ⟨w.heap.size,1,none⟩=some (.int .i64 (sz:Int))/\w8.cell? ⟨w.heap.size,2,none⟩=some (.int .i64 lf)/\w8.cell? ⟨w.heap.size,3,none⟩=some (.pointer (some ⟨t,0,none⟩))/\w8.cell? ⟨x,0,none⟩=some (.int .i64 (f:Int))/\w8.cell? ⟨x,1,none⟩=some (.int .i64 (r:Int))/\w8.cell? ⟨x,2,none⟩=some (.pointer (some ⟨st,0,none⟩))) /\
 ∀w9,w9=w8.drew->(w9.cell? ⟨w.heap.size,0,none⟩=some (.pointer (some ⟨x,0,none⟩))/\w9.cell? ⟨w.heap.size,1,none⟩=some (.int .i64 (sz:Int))/\w9.cell? ⟨w.heap.size,2,none⟩=some (.int .i64 lf)/\w9.cell? ⟨w.heap.size,3,none⟩=some (.pointer (some ⟨t,0,none⟩))/\w9.cell? ⟨x,0,none⟩=some (.int .i64 (f:Int))/\w9.cell? ⟨x,1,none⟩=some (.int .i64 (r:Int))/\w9.cell? ⟨x,2,none⟩=some (.pointer (some ⟨st,0,none⟩)))/\Calls Tryz.prog 52 #[.pointer (some ⟨t,0,none⟩),.int .i64 ((f:Int)+(m:Int)),.slice (some ⟨g,0,none⟩) 512 cp] w9 fun e w10=>∃v,e=.returned (.int .i64 v)/\(w10.cell? ⟨w.heap.size,0,none⟩=some (.pointer (some ⟨x,0,none⟩))/\w10.cell? ⟨w.heap.size,1,none⟩=some (.int .i64 (sz:Int))/\w10.cell? ⟨w.heap.size,2,none⟩=some (.int .i64 lf)/\w10.cell? ⟨w.heap.size,3,none⟩=some (.pointer (some ⟨t,0,none⟩))/\w10.cell? ⟨x,0,none⟩=some (.int .i64 (f:Int))/\w10.cell? ⟨x,1,none⟩=some (.int .i64 (r:Int))/\w10.cell? ⟨x,2,none⟩=some (.pointer (some ⟨st,0,none⟩)))/\PO (.returned (.int .i64 v)) w10)
theorem change_walk55{s:Nat}(hs:s<480)(hm:m<=1000)(hf:f<=4611686018427387904)(H:ChC55 w x f r st t sz b k s m lf PO) :
  Calls Tryz.prog 54 #[.agg #[.pointer (some ⟨x,0,none⟩),.int .i64 (sz:Int),.int .i64 lf,.pointer (some ⟨t,0,none⟩)],.int .i64 (b:Int),.func (.func 55) #[] #[]] w PO:=by
 have H1:=hid H
 have hwr:IntKind.i64.wrap ((f:Int)+(m:Int))=(f:Int)+(m:Int):=by rw[IntKind.wrap_i64];omega
 clear H
 go_enter Tryz.func54,Tryz.ntmps54
 go_wp2_with fail
 refine Calls.mono H1.out ?_
 rintro e w1 ⟨rfl,h2⟩
 obtain⟨kS,A1,h3⟩:=h2 _ rfl
 have H3:=hid h3
 clear h2 h3 H1
 go_wp2_with fail
 refine Gz (S:=fun w'=>w'.cell? ⟨w.heap.size,0,none⟩=some (.pointer (some ⟨x,0,none⟩))/\w'.cell? ⟨w.heap.size,1,none⟩=some (.int .i64 (sz:Int))/\w'.cell? ⟨w.heap.size,2,none⟩=some (.int .i64 lf)/\w'.cell? ⟨w.heap.size,3,none⟩=some (.pointer (some ⟨t,0,none⟩))/\w'.cell? ⟨x,0,none⟩=some (.int .i64 (f:Int))/\w'.cell? ⟨x,1,none⟩=some (.int .i64 (r:Int))/\w'.cell? ⟨x,2,none⟩=some (.pointer (some ⟨st,0,none⟩))) kS (fun hSS=>?_)
 refine Ti 0 rfl ?_
 refine Ti 1 rfl ?_
 refine Ti 2 rfl ?_
 refine Ti 3 rfl ?_
 try simp only[Act.put,zA,zB,zC]
 refine Ti 4 rfl ?_
 refine Ti 5 rfl ?_
 try simp only[Act.put,zA,zB,zC]
 refine Ri 6 rfl (fun K9 hK9=>?_)
 go_simp
 go_at_call 89
 refine Calls.mono A1.out ?_
 rintro e w' ⟨rfl,hw'⟩
 rw[hw']
 clear hw' A1
 refine hK9.out _ _ kS (fun hSS=>?_)
 try simp only[Act.put,zA,zB,zC]
 refine Ri 7 rfl (fun K9 hK9=>?_)
 go_simp
 go_at_call 88
 refine Calls.mono H3.out ?_
 rintro e w3 ⟨rfl,hk3,h4⟩
 obtain⟨kT,h5⟩:=h4 _ rfl
 have H5:=hid h5
 clear h4 h5 H3
 refine hK9.out _ _ hk3 (fun hSS=>?_)
 try simp only[Act.put,zA,zB,zC]
 refine Ti 8 rfl ?_
 try simp only[Act.put,zA,zB,zC]
 refine Dn ?_
 clear hSS kS hk3
 go_wp2_with fail
 refine Gz (S:=fun w'=>w'.cell? ⟨w.heap.size,0,none⟩=some (.pointer (some ⟨x,0,none⟩))/\w'.cell? ⟨w.heap.size,1,none⟩=some (.int .i64 (sz:Int))/\w'.cell? ⟨w.heap.size,2,none⟩=some (.int .i64 lf)/\w'.cell? ⟨w.heap.size,3,none⟩=some (.pointer (some ⟨t,0,none⟩))/\w'.cell? ⟨x,0,none⟩=some (.int .i64 (f:Int))/\w'.cell? ⟨x,1,none⟩=some (.int .i64 (r:Int))/\w'.cell? ⟨x,2,none⟩=some (.pointer (some ⟨st,0,none⟩))) kT (fun hSS=>?_)
 refine Ti 0 rfl ?_
 refine Ti 1 rfl ?_
 refine Ti 2 rfl ?_
 try simp only[Act.put,zA,zB,zC]
 refine Ti 3 rfl ?_
 refine Ti 4 rfl ?_
 refine Ti 5 rfl ?_
 refine Ti 6 rfl ?_
 try simp only[Act.put,zA,zB,zC]
 refine Ti 7 rfl ?_
 refine Ti 8 rfl ?_
 try simp only[Act.put,zA,zB,zC]
 refine Ri 9 rfl (fun K9 hK9=>?_)
 go_simp
 go_at_call 87
 refine Calls.mono H5.out ?_
 rintro e w5 ⟨g,cp,was,rfl,hk5,⟨hc5,hb5,hb6⟩,A2,h6⟩
 have H6:=hid h6
 clear h6 H5
 refine hK9.out _ _ hk5 (fun hSS=>?_)
 try simp only[Act.put,zA,zB,zC]
 refine Ti 10 rfl ?_
 refine Ti 11 rfl ?_
 refine Ti 12 rfl ?_
 try simp only[Act.put,zA,zB,zC]
 refine Ti 13 rfl ?_
 refine Ti 14 rfl ?_
 try simp only[Act.put,zA,zB,zC]
 refine Dn ?_
 clear hSS kT hk5
 go_wp2_with fail
 refine Calls.mono A2.out ?_
 rintro e w' ⟨rfl,rfl⟩
 clear A2
 go_wp2_with fail
 refine Calls.mono H6.out ?_
 rintro e w6 ⟨cnt,ev,rfl,hA,hB⟩
 by_cases hev:ev=0
 ·obtain⟨⟨⟨hn0,hn1⟩,hc6,hf6⟩,h7⟩:=hB hev
  subst hev
  obtain⟨kU,⟨A3,A4,A5⟩,h8⟩:=h7 _ rfl
  have H8:=hid h8
  clear h7 h8 H6 hA hB hc5
  have hwu:IntKind.u8.wrap cnt=cnt:=by rw[IntKind.wrap_u8];omega
  have hwm:IntKind.i64.wrap (min cnt 1-min was 1)=min cnt 1-min was 1:=by rw[IntKind.wrap_i64];omega
  go_wp2_with fail
  refine Gz (S:=fun w'=>w'.cell? ⟨w.heap.size,0,none⟩=some (.pointer (some ⟨x,0,none⟩))/\w'.cell? ⟨w.heap.size,1,none⟩=some (.int .i64 (sz:Int))/\w'.cell? ⟨w.heap.size,2,none⟩=some (.int .i64 lf)/\w'.cell? ⟨w.heap.size,3,none⟩=some (.pointer (some ⟨t,0,none⟩))/\w'.cell? ⟨x,0,none⟩=some (.int .i64 (f:Int))/\w'.cell? ⟨x,1,none⟩=some (.int .i64 (r:Int))/\w'.cell? ⟨x,2,none⟩=some (.pointer (some ⟨st,0,none⟩))) kU (fun hSS=>?_)
  refine Ti 0 rfl ?_
  refine Ti 1 rfl ?_
  refine Ti 3 rfl ?_
  try simp only[Act.put,zA,zB,zC]
  refine Ti 5 rfl ?_
  try simp only[Act.put,zA,zB,zC]
  refine Ri 2 rfl (fun K9 hK9=>?_)
  go_simp
  go_at_call 89
  refine Calls.mono A3.out ?_
  rintro e w' ⟨rfl,hw'⟩
  rw[hw']
  clear hw' A3
  refine hK9.out _ _ kU (fun hSS=>?_)
  try simp only[Act.put,zA,zB,zC]
  refine Ri 4 rfl (fun K9 hK9=>?_)
  go_simp
  go_at_call 99
  refine Calls.mono A4.out ?_
  rintro e w' ⟨rfl,hw'⟩
  rw[hw']
  clear hw' A4
  refine hK9.out _ _ kU (fun hSS=>?_)
  try simp only[Act.put,zA,zB,zC]
  refine Ri 6 rfl (fun K9 hK9=>?_)
  go_simp
  go_at_call 99
  refine Calls.mono A5.out ?_
  rintro e w' ⟨rfl,hw'⟩
  rw[hw']
  clear hw' A5
  refine hK9.out _ _ kU (fun hSS=>?_)
  try simp only[Act.put,zA,zB,zC]
  refine wpAnyH_take (i:=7) (oi:=({ dst:=some 71,op:=Op.binOp BinOp.sub 3 (Operand.tmp 68) (Operand.tmp 70) 3,type:=3,pos:=_,after:=_,guard:=none }:Oper)) (v:=.int .i64 (min cnt 1-min was 1)) rfl (by kernel_rfl) (by kernel_rfl) (by kernel_rfl) (fun _ _ _ h=>h) (Or.inl ⟨by rfl,?_⟩) hSS ?_
  ·intro w9 hSw
   (try dsimp only at hSw)
   (try go_split_ands)
   first | (go_simp;done) | (go_simp;simp[hwm];done)
  try simp only[Act.put,zA,zB,zC]
  refine Ri 8 rfl (fun K9 hK9=>?_)
  go_simp
  go_at_call 98
  refine Calls.mono H8.out ?_
  rintro e w8 ⟨rfl,hk8,h9⟩
  obtain⟨kV,h10⟩:=h9 _ rfl
  have H10:=hid h10
  clear h9 h10 H8
  refine hK9.out _ _ hk8 (fun hSS=>?_)
  try simp only[Act.put,zA,zB,zC]
  refine Ti 9 rfl ?_
  try simp only[Act.put,zA,zB,zC]
  refine Dn ?_
  clear hSS kU hk8
  go_wp2_with fail
  refine Gz (S:=fun w'=>w'.cell? ⟨w.heap.size,0,none⟩=some (.pointer (some ⟨x,0,none⟩))/\w'.cell? ⟨w.heap.size,1,none⟩=some (.int .i64 (sz:Int))/\w'.cell? ⟨w.heap.size,2,none⟩=some (.int .i64 lf)/\w'.cell? ⟨w.heap.size,3,none⟩=some (.pointer (some ⟨t,0,none⟩))/\w'.cell? ⟨x,0,none⟩=some (.int .i64 (f:Int))/\w'.cell? ⟨x,1,none⟩=some (.int .i64 (r:Int))/\w'.cell? ⟨x,2,none⟩=some (.pointer (some ⟨st,0,none⟩))) kV (fun hSS=>?_)
  refine Ti 0 rfl ?_
  refine Ti 1 rfl ?_
  refine Ti 2 rfl ?_
  refine Ti 3 rfl ?_
  try simp only[Act.put,zA,zB,zC]
  refine Ti 4 rfl ?_
  refine Ti 5 rfl ?_
  refine Ti 6 rfl ?_
  refine Ti 7 rfl ?_
  try simp only[Act.put,zA,zB,zC]
  refine Ti 8 rfl ?_
  refine Ti 9 rfl ?_
  try simp only[Act.put,zA,zB,zC]
  refine wpAnyH_take (i:=10) (oi:=({ dst:=some 86,op:=Op.binOp BinOp.add 3 (Operand.tmp 84) (Operand.tmp 85) 3,type:=3,pos:=_,after:=_,guard:=none }:Oper)) (v:=.int .i64 ((f:Int)+(m:Int))) rfl (by kernel_rfl) (by kernel_rfl) (by kernel_rfl) (fun _ _ _ h=>h) (Or.inl ⟨by rfl,?_⟩) hSS ?_
  ·intro w9 hSw
   (try dsimp only at hSw)
   (try go_split_ands)
   first | (go_simp;done) | (go_simp;simp[hwr];done)
  try simp only[Act.put,zA,zB,zC]
  refine Ti 11 rfl ?_
  try simp only[Act.put,zA,zB,zC]
  refine Ri 12 rfl (fun K9 hK9=>?_)
  go_simp
  go_at_call 52
  refine Calls.mono H10.out ?_
  rintro e w10 ⟨v,rfl,hk10,hF⟩
  have FIN:=hid hF
  clear hF H10
  refine hK9.out _ _ hk10 (fun hSS=>?_)
  try simp only[Act.put,zA,zB,zC]
  refine Ti 13 rfl ?_
  try simp only[Act.put,zA,zB,zC]
  refine Dn ?_
  clear hSS kV hk10
  go_wp2
  exact FIN.out
 ·have FIN:=hid (hA hev)
  clear hA hB H6
  go_wp2
  exact FIN.out
def ChC57 (w:World) (x f r st t sz b k s m:Nat) (lf:Int) (lv:Nat) (PO:Ending->World->Prop):Prop :=
 Calls Tryz.prog 86 #[.agg #[.pointer (some ⟨x,0,none⟩),.int .i64 (sz:Int),.int .i64 lf,.pointer (some ⟨t,0,none⟩)],.int .i64 (b:Int)] (w.alloc (.cells #[.pointer (some ⟨x,0,none⟩),.int .i64 (sz:Int),.int .i64 lf,.pointer (some ⟨t,0,none⟩)] 103)) fun e w1=>e=.returned (.bool true) /\
 ∀w2,w2=w1.drew->(w2.cell? ⟨w.heap.size,0,none⟩=some (.pointer (some ⟨x,0,none⟩))/\w2.cell? ⟨w.heap.size,1,none⟩=some (.int .i64 (sz:Int))/\w2.cell? ⟨w.heap.size,2,none⟩=some (.int .i64 lf)/\w2.cell? ⟨w.heap.size,3,none⟩=some (.pointer (some ⟨t,0,none⟩))/\w2.cell? ⟨x,0,none⟩=some (.int .i64 (f:Int))/\w2.cell? ⟨x,1,none⟩=some (.int .i64 (r:Int))/\w2.cell? ⟨x,2,none⟩=some (.pointer (some ⟨st,0,none⟩)))/\Hid (Calls Tryz.prog 89 #[.int .i64 (b:Int)] w2 fun e w'=>e=.returned (.int .i64 (k:Int))/\w'=w2)/\Calls Tryz.prog 88 #[.agg #[.int .i64 (f:Int),.int .i64 (r:Int)],.int .i64 (k:Int)] w2 fun e w3=>e=.returned (.int .i64 (m:Int))/\(w3.cell? ⟨w.heap.size,0,none⟩=some (.pointer (some ⟨x,0,none⟩))/\w3.cell? ⟨w.heap.size,1,none⟩=some (.int .i64 (sz:Int))/\w3.cell? ⟨w.heap.size,2,none⟩=some (.int .i64 lf)/\w3.cell? ⟨w.heap.size,3,none⟩=some (.pointer (some ⟨t,0,none⟩))/\w3.cell? ⟨x,0,none⟩=some (.int .i64 (f:Int))/\w3.cell? ⟨x,1,none⟩=some (.int .i64 (r:Int))/\w3.cell? ⟨x,2,none⟩=some (.pointer (some ⟨st,0,none⟩))) /\
 ∀w4,w4=w3.drew->(w4.cell? ⟨w.heap.size,0,none⟩=some (.pointer (some ⟨x,0,none⟩))/\w4.cell? ⟨w.heap.size,1,none⟩=some (.int .i64 (sz:Int))/\w4.cell? ⟨w.heap.size,2,none⟩=some (.int .i64 lf)/\w4.cell? ⟨w.heap.size,3,none⟩=some (.pointer (some ⟨t,0,none⟩))/\w4.cell? ⟨x,0,none⟩=some (.int .i64 (f:Int))/\w4.cell? ⟨x,1,none⟩=some (.int .i64 (r:Int))/\w4.cell? ⟨x,2,none⟩=some (.pointer (some ⟨st,0,none⟩)))/\Calls Tryz.prog 87 #[.agg #[.int .i64 (f:Int),.int .i64 (r:Int)],.iface 101 (.agg #[.pointer (some ⟨t,0,none⟩)]),.int .i64 (m:Int)] w4 fun e w5=>∃g cp was,e=.returned (.tuple #[.slice (some ⟨g,0,none⟩) 512 cp,.int .i64 0])/\(w5.cell? ⟨w.heap.size,0,none⟩=some (.pointer (some ⟨x,0,none⟩))/\w5.cell? ⟨w.heap.size,1,none⟩=some (.int .i64 (sz:Int))/\w5.cell? ⟨w.heap.size,2,none⟩=some (.int .i64 lf)/\w5.cell? ⟨w.heap.size,3,none⟩=some (.pointer (some ⟨t,0,none⟩))/\w5.cell? ⟨x,0,none⟩=some (.int .i64 (f:Int))/\w5.cell? ⟨x,1,none⟩=some (.int .i64 (r:Int))/\w5.cell? ⟨x,2,none⟩=some (.pointer (some ⟨st,0,none⟩)))/\(w5.cell? ⟨g,32+s,none⟩=some (.int .u8 was)/\0<=was/\was<=255)/\Hid (Calls Tryz.prog 90 #[.int .i64 (b:Int)] w5 fun e w'=>e=.returned (.int .i64 (s:Int))/\w'=w5) /\
 Calls Tryz.prog 57 #[.int .i64 was,.pointer (some ⟨lv,0,none⟩)] w5 fun e w6=>∃cnt ev,e=.returned (.tuple #[.int .i64 cnt,.int .i64 ev])/\(¬ev=0->PO (.returned (.int .i64 ev)) w6)/\(ev=0->((0<=cnt/\cnt<=255)/\w6.cell? ⟨g,32+s,none⟩=some (.int .u8 was)/\w6.frozen? ⟨g,32+s,none⟩=false) /\
 ∀w7,w7=(w6.setCell ⟨g,32+s,none⟩ (.int .u8 cnt)).drew->(w7.cell? ⟨w.heap.size,0,none⟩=some (.pointer (some ⟨x,0,none⟩))/\w7.cell? ⟨w.heap.size,1,none⟩=some (.int .i64 (sz:Int))/\w7.cell? ⟨w.heap.size,2,none⟩=some (.int .i64 lf)/\w7.cell? ⟨w.heap.size,3,none⟩=some (.pointer (some ⟨t,0,none⟩))/\w7.cell? ⟨x,0,none⟩=some (.int .i64 (f:Int))/\w7.cell? ⟨x,1,none⟩=some (.int .i64 (r:Int))/\w7.cell? ⟨x,2,none⟩=some (.pointer (some ⟨st,0,none⟩)))/\(Hid (Calls Tryz.prog 89 #[.int .i64 (b:Int)] w7 fun e w'=>e=.returned (.int .i64 (k:Int))/\w'=w7)/\Hid (Calls Tryz.prog 99 #[.int .i64 cnt] w7 fun e w'=>e=.returned (.int .i64 (min cnt 1))/\w'=w7)/\Hid (Calls Tryz.prog 99 #[.int .i64 was] w7 fun e w'=>e=.returned (.int .i64 (min was 1))/\w'=w7))/\Calls Tryz.prog 98 #[.agg #[.pointer (some ⟨x,0,none⟩),.int .i64 (sz:Int),.int .i64 lf,.pointer (some ⟨t,0,none⟩)],.int .i64 (k:Int),.int .i64 (min cnt 1-min was 1)] w7 fun e w8=>e=.returned (.int .i64 0)/\(w8.cell? ⟨w.heap.size,0,none⟩=some (.pointer (some ⟨x,0,none⟩))/\w8.cell? ⟨w.heap.size,1,none⟩=some (.int .i64 (sz:Int))/\w8.cell? ⟨w.heap.size,2,none⟩=some (.int .i64 lf)/\w8.cell? ⟨w.heap.size,3,none⟩=some (.pointer (some ⟨t,0,none⟩))/\w8.cell? ⟨x,0,none⟩=some (.int .i64 (f:Int))/\w8.cell? ⟨x,1,none⟩=some (.int .i64 (r:Int))/\w8.cell? ⟨x,2,none⟩=some (.pointer (some ⟨st,0,none⟩))) /\
 ∀w9,w9=w8.drew->(w9.cell? ⟨w.heap.size,0,none⟩=some (.pointer (some ⟨x,0,none⟩))/\w9.cell? ⟨w.heap.size,1,none⟩=some (.int .i64 (sz:Int))/\w9.cell? ⟨w.heap.size,2,none⟩=some (.int .i64 lf)/\w9.cell? ⟨w.heap.size,3,none⟩=some (.pointer (some ⟨t,0,none⟩))/\w9.cell? ⟨x,0,none⟩=some (.int .i64 (f:Int))/\w9.cell? ⟨x,1,none⟩=some (.int .i64 (r:Int))/\w9.cell? ⟨x,2,none⟩=some (.pointer (some ⟨st,0,none⟩)))/\Calls Tryz.prog 52 #[.pointer (some ⟨t,0,none⟩),.int .i64 ((f:Int)+(m:Int)),.slice (some ⟨g,0,none⟩) 512 cp] w9 fun e w10=>∃v,e=.returned (.int .i64 v)/\(w10.cell? ⟨w.heap.size,0,none⟩=some (.pointer (some ⟨x,0,none⟩))/\w10.cell? ⟨w.heap.size,1,none⟩=some (.int .i64 (sz:Int))/\w10.cell? ⟨w.heap.size,2,none⟩=some (.int .i64 lf)/\w10.cell? ⟨w.heap.size,3,none⟩=some (.pointer (some ⟨t,0,none⟩))/\w10.cell? ⟨x,0,none⟩=some (.int .i64 (f:Int))/\w10.cell? ⟨x,1,none⟩=some (.int .i64 (r:Int))/\w10.cell? ⟨x,2,none⟩=some (.pointer (some ⟨st,0,none⟩)))/\PO (.returned (.int .i64 v)) w10)
theorem change_walk57{s:Nat}{lv:Nat}(hs:s<480)(hm:m<=1000)(hf:f<=4611686018427387904)(H:ChC57 w x f r st t sz b k s m lf lv PO) :
  Calls Tryz.prog 54 #[.agg #[.pointer (some ⟨x,0,none⟩),.int .i64 (sz:Int),.int .i64 lf,.pointer (some ⟨t,0,none⟩)],.int .i64 (b:Int),.func (.func 57) #[] #[.pointer (some ⟨lv,0,none⟩)]] w PO:=by
 have H1:=hid H
 have hwr:IntKind.i64.wrap ((f:Int)+(m:Int))=(f:Int)+(m:Int):=by rw[IntKind.wrap_i64];omega
 clear H
 go_enter Tryz.func54,Tryz.ntmps54
 go_wp2_with fail
 refine Calls.mono H1.out ?_
 rintro e w1 ⟨rfl,h2⟩
 obtain⟨kS,A1,h3⟩:=h2 _ rfl
 have H3:=hid h3
 clear h2 h3 H1
 go_wp2_with fail
 refine Gz (S:=fun w'=>w'.cell? ⟨w.heap.size,0,none⟩=some (.pointer (some ⟨x,0,none⟩))/\w'.cell? ⟨w.heap.size,1,none⟩=some (.int .i64 (sz:Int))/\w'.cell? ⟨w.heap.size,2,none⟩=some (.int .i64 lf)/\w'.cell? ⟨w.heap.size,3,none⟩=some (.pointer (some ⟨t,0,none⟩))/\w'.cell? ⟨x,0,none⟩=some (.int .i64 (f:Int))/\w'.cell? ⟨x,1,none⟩=some (.int .i64 (r:Int))/\w'.cell? ⟨x,2,none⟩=some (.pointer (some ⟨st,0,none⟩))) kS (fun hSS=>?_)
 refine Ti 0 rfl ?_
 refine Ti 1 rfl ?_
 try simp only[Act.put,zA,zB,zC]
 refine Ti 2 rfl ?_
 refine Ti 3 rfl ?_
 refine Ti 4 rfl ?_
 refine Ti 5 rfl ?_
 try simp only[Act.put,zA,zB,zC]
 refine Ri 6 rfl (fun K9 hK9=>?_)
 go_simp
 go_at_call 89
 refine Calls.mono A1.out ?_
 rintro e w' ⟨rfl,hw'⟩
 rw[hw']
 clear hw' A1
 refine hK9.out _ _ kS (fun hSS=>?_)
 try simp only[Act.put,zA,zB,zC]
 refine Ri 7 rfl (fun K9 hK9=>?_)
 go_simp
 go_at_call 88
 refine Calls.mono H3.out ?_
 rintro e w3 ⟨rfl,hk3,h4⟩
 obtain⟨kT,h5⟩:=h4 _ rfl
 have H5:=hid h5
 clear h4 h5 H3
 refine hK9.out _ _ hk3 (fun hSS=>?_)
 try simp only[Act.put,zA,zB,zC]
 refine Ti 8 rfl ?_
 try simp only[Act.put,zA,zB,zC]
 refine Dn ?_
 clear hSS kS hk3
 go_wp2_with fail
 refine Gz (S:=fun w'=>w'.cell? ⟨w.heap.size,0,none⟩=some (.pointer (some ⟨x,0,none⟩))/\w'.cell? ⟨w.heap.size,1,none⟩=some (.int .i64 (sz:Int))/\w'.cell? ⟨w.heap.size,2,none⟩=some (.int .i64 lf)/\w'.cell? ⟨w.heap.size,3,none⟩=some (.pointer (some ⟨t,0,none⟩))/\w'.cell? ⟨x,0,none⟩=some (.int .i64 (f:Int))/\w'.cell? ⟨x,1,none⟩=some (.int .i64 (r:Int))/\w'.cell? ⟨x,2,none⟩=some (.pointer (some ⟨st,0,none⟩))) kT (fun hSS=>?_)
 refine Ti 0 rfl ?_
 try simp only[Act.put,zA,zB,zC]
 refine Ti 1 rfl ?_
 refine Ti 2 rfl ?_
 refine Ti 3 rfl ?_
 refine Ti 4 rfl ?_
 try simp only[Act.put,zA,zB,zC]
 refine Ti 5 rfl ?_
 refine Ti 6 rfl ?_
 refine Ti 7 rfl ?_
 refine Ti 8 rfl ?_
 try simp only[Act.put,zA,zB,zC]
 refine Ri 9 rfl (fun K9 hK9=>?_)
 go_simp
 go_at_call 87
 refine Calls.mono H5.out ?_
 rintro e w5 ⟨g,cp,was,rfl,hk5,⟨hc5,hb5,hb6⟩,A2,h6⟩
 have H6:=hid h6
 clear h6 H5
 refine hK9.out _ _ hk5 (fun hSS=>?_)
 try simp only[Act.put,zA,zB,zC]
 refine Ti 10 rfl ?_
 try simp only[Act.put,zA,zB,zC]
 refine Ti 11 rfl ?_
 refine Ti 12 rfl ?_
 refine Ti 13 rfl ?_
 refine Ti 14 rfl ?_
 try simp only[Act.put,zA,zB,zC]
 refine Dn ?_
 clear hSS kT hk5
 go_wp2_with fail
 refine Calls.mono A2.out ?_
 rintro e w' ⟨rfl,rfl⟩
 clear A2
 go_wp2_with fail
 refine Calls.mono H6.out ?_
 rintro e w6 ⟨cnt,ev,rfl,hA,hB⟩
 by_cases hev:ev=0
 ·obtain⟨⟨⟨hn0,hn1⟩,hc6,hf6⟩,h7⟩:=hB hev
  subst hev
  obtain⟨kU,⟨A3,A4,A5⟩,h8⟩:=h7 _ rfl
  have H8:=hid h8
  clear h7 h8 H6 hA hB hc5
  have hwu:IntKind.u8.wrap cnt=cnt:=by rw[IntKind.wrap_u8];omega
  have hwm:IntKind.i64.wrap (min cnt 1-min was 1)=min cnt 1-min was 1:=by rw[IntKind.wrap_i64];omega
  go_wp2_with fail
  refine Gz (S:=fun w'=>w'.cell? ⟨w.heap.size,0,none⟩=some (.pointer (some ⟨x,0,none⟩))/\w'.cell? ⟨w.heap.size,1,none⟩=some (.int .i64 (sz:Int))/\w'.cell? ⟨w.heap.size,2,none⟩=some (.int .i64 lf)/\w'.cell? ⟨w.heap.size,3,none⟩=some (.pointer (some ⟨t,0,none⟩))/\w'.cell? ⟨x,0,none⟩=some (.int .i64 (f:Int))/\w'.cell? ⟨x,1,none⟩=some (.int .i64 (r:Int))/\w'.cell? ⟨x,2,none⟩=some (.pointer (some ⟨st,0,none⟩))) kU (fun hSS=>?_)
  refine Ti 0 rfl ?_
  try simp only[Act.put,zA,zB,zC]
  refine Ti 1 rfl ?_
  refine Ti 3 rfl ?_
  refine Ti 5 rfl ?_
  try simp only[Act.put,zA,zB,zC]
  refine Ri 2 rfl (fun K9 hK9=>?_)
  go_simp
  go_at_call 89
  refine Calls.mono A3.out ?_
  rintro e w' ⟨rfl,hw'⟩
  rw[hw']
  clear hw' A3
  refine hK9.out _ _ kU (fun hSS=>?_)
  try simp only[Act.put,zA,zB,zC]
  refine Ri 4 rfl (fun K9 hK9=>?_)
  go_simp
  go_at_call 99
  refine Calls.mono A4.out ?_
  rintro e w' ⟨rfl,hw'⟩
  rw[hw']
  clear hw' A4
  refine hK9.out _ _ kU (fun hSS=>?_)
  try simp only[Act.put,zA,zB,zC]
  refine Ri 6 rfl (fun K9 hK9=>?_)
  go_simp
  go_at_call 99
  refine Calls.mono A5.out ?_
  rintro e w' ⟨rfl,hw'⟩
  rw[hw']
  clear hw' A5
  refine hK9.out _ _ kU (fun hSS=>?_)
  try simp only[Act.put,zA,zB,zC]
  refine wpAnyH_take (i:=7) (oi:=({ dst:=some 71,op:=Op.binOp BinOp.sub 3 (Operand.tmp 68) (Operand.tmp 70) 3,type:=3,pos:=_,after:=_,guard:=none }:Oper)) (v:=.int .i64 (min cnt 1-min was 1)) rfl (by kernel_rfl) (by kernel_rfl) (by kernel_rfl) (fun _ _ _ h=>h) (Or.inl ⟨by rfl,?_⟩) hSS ?_
  ·intro w9 hSw
   (try dsimp only at hSw)
   (try go_split_ands)
   first | (go_simp;done) | (go_simp;simp[hwm];done)
  try simp only[Act.put,zA,zB,zC]
  refine Ri 8 rfl (fun K9 hK9=>?_)
  go_simp
  go_at_call 98
  refine Calls.mono H8.out ?_
  rintro e w8 ⟨rfl,hk8,h9⟩
  obtain⟨kV,h10⟩:=h9 _ rfl
  have H10:=hid h10
  clear h9 h10 H8
  refine hK9.out _ _ hk8 (fun hSS=>?_)
  try simp only[Act.put,zA,zB,zC]
  refine Ti 9 rfl ?_
  try simp only[Act.put,zA,zB,zC]
  refine Dn ?_
  clear hSS kU hk8
  go_wp2_with fail
  refine Gz (S:=fun w'=>w'.cell? ⟨w.heap.size,0,none⟩=some (.pointer (some ⟨x,0,none⟩))/\w'.cell? ⟨w.heap.size,1,none⟩=some (.int .i64 (sz:Int))/\w'.cell? ⟨w.heap.size,2,none⟩=some (.int .i64 lf)/\w'.cell? ⟨w.heap.size,3,none⟩=some (.pointer (some ⟨t,0,none⟩))/\w'.cell? ⟨x,0,none⟩=some (.int .i64 (f:Int))/\w'.cell? ⟨x,1,none⟩=some (.int .i64 (r:Int))/\w'.cell? ⟨x,2,none⟩=some (.pointer (some ⟨st,0,none⟩))) kV (fun hSS=>?_)
  refine Ti 0 rfl ?_
  refine Ti 1 rfl ?_
  try simp only[Act.put,zA,zB,zC]
  refine Ti 2 rfl ?_
  refine Ti 3 rfl ?_
  refine Ti 4 rfl ?_
  refine Ti 5 rfl ?_
  try simp only[Act.put,zA,zB,zC]
  refine Ti 6 rfl ?_
  refine Ti 7 rfl ?_
  refine Ti 8 rfl ?_
  refine Ti 9 rfl ?_
  try simp only[Act.put,zA,zB,zC]
  refine wpAnyH_take (i:=10) (oi:=({ dst:=some 86,op:=Op.binOp BinOp.add 3 (Operand.tmp 84) (Operand.tmp 85) 3,type:=3,pos:=_,after:=_,guard:=none }:Oper)) (v:=.int .i64 ((f:Int)+(m:Int))) rfl (by kernel_rfl) (by kernel_rfl) (by kernel_rfl) (fun _ _ _ h=>h) (Or.inl ⟨by rfl,?_⟩) hSS ?_
  ·intro w9 hSw
   (try dsimp only at hSw)
   (try go_split_ands)
   first | (go_simp;done) | (go_simp;simp[hwr];done)
  try simp only[Act.put,zA,zB,zC]
  refine Ti 11 rfl ?_
  try simp only[Act.put,zA,zB,zC]
  refine Ri 12 rfl (fun K9 hK9=>?_)
  go_simp
  go_at_call 52
  refine Calls.mono H10.out ?_
  rintro e w10 ⟨v,rfl,hk10,hF⟩
  have FIN:=hid hF
  clear hF H10
  refine hK9.out _ _ hk10 (fun hSS=>?_)
  try simp only[Act.put,zA,zB,zC]
  refine Ti 13 rfl ?_
  try simp only[Act.put,zA,zB,zC]
  refine Dn ?_
  clear hSS kV hk10
  go_wp2
  exact FIN.out
 ·have FIN:=hid (hA hev)
  clear hA hB H6
  go_wp2
  exact FIN.out
end Go.Proofs.YtlefjidbpjkhlaaGreat
