import Derived.Test.YtlefjidbpjkhlaaGreatK51
import Derived.Deep.DeepCutAuto
set_option maxRecDepth 100000
set_option maxHeartbeats 16000000
namespace Go.Proofs.YtlefjidbpjkhlaaGreat
variable {W w w0:World}
variable {M N f1 g1 o r0 r1 t x0 x1:Nat}
variable {PO:Ending->World->Prop}
variable {Fo Ov:Value}
variable {F:Cf}
variable {Rs:List (Value×List Int)}
variable {C:Nat->List Int}
open Go.RowKit Go.Deep
open Act(put)
theorem kept_walk{a b c d:Int}{sa:Option Addr}{sc sb so:Nat}(hsa:M=0\/sa=some ⟨sb,so,none⟩)(hM:M<=1000000000)(H:Calls Tryz.prog 20 #[.agg #[.int .i64 a,.int .i64 b],.agg #[.int .i64 c,.int .i64 d]] ((w.alloc (.cells #[.int .i64 a,.int .i64 b] 26)).alloc (.cells #[.int .i64 c,.int .i64 d] 26)) fun e w1=>∃o kb x0 x1 f1 r0 r1 p1,e=.returned (.tuple #[.pointer (some ⟨o,0,none⟩),.pointer (some ⟨kb,0,none⟩),.bool true])/\(f1<=1000/\p1<=1000)/\KpB o x0 x1 f1 r0 r1 p1 M sb so PO w1) :
  Calls Tryz.prog 5 #[.agg #[.int .i64 a,.int .i64 b],.agg #[.int .i64 c,.int .i64 d],.slice sa M sc] w PO:=by
 have H1:=hid H
 clear H
 go_enter Tryz.func5,Tryz.ntmps5
 go_wp2_with fail
 refine Calls.mono H1.out ?_
 rintro e w1 ⟨o,kb,x0,x1,f1,r0,r1,p1,rfl,hfp,kS,h2⟩
 have H2:=hid h2
 have hwr:IntKind.i64.wrap ((f1:Int)+(p1:Int))=(f1:Int)+(p1:Int):=by rw[IntKind.wrap_i64];omega
 clear h2 H1
 go_wp2_with fail
 refine Gz (S:=fun w'=>w'.cell? ⟨o,5,none⟩=some (.int .i64 65)/\w'.cell? ⟨o,6,none⟩=some (.int .i64 (f1:Int))/\w'.cell? ⟨o,8,none⟩=some (.int .i64 (r1:Int))) kS (fun hSS=>?_)
 refine Ti 0 rfl ?_
 refine Ti 1 rfl ?_
 refine Ti 2 rfl ?_
 simp only[put,zA,zB,zC]
 refine Ti 3 rfl ?_
 refine Ti 4 rfl ?_
 refine Ti 5 rfl ?_
 simp only[put,zA,zB,zC]
 refine Ti 6 rfl ?_
 refine Ti 7 rfl ?_
 refine Ti 8 rfl ?_
 simp only[put,zA,zB,zC]
 refine Ti 9 rfl ?_
 refine Ti 10 rfl ?_
 refine Ti 11 rfl ?_
 simp only[put,zA,zB,zC]
 refine Ti 12 rfl ?_
 refine Ti 13 rfl ?_
 refine Ti 14 rfl ?_
 simp only[put,zA,zB,zC]
 refine Ti 15 rfl ?_
 simp only[put,zA,zB,zC]
 refine Ri 16 rfl (fun K9 hK9=>?_)
 go_simp
 go_at_call 21
 refine Calls.mono H2.out ?_
 rintro e w3 ⟨rfl,hk3,hk4,h3⟩
 obtain⟨w3a,hw3a⟩:∃w3a,w3a=w3.heap.size:=⟨_,rfl⟩
 have H3:=hid (h3 w3a hw3a)
 clear h3 H2
 refine hK9.out _ _ hk3 (fun hSS=>?_)
 try simp only[put,zA,zB,zC]
 refine wpAnyH_take (i:=17) (oi:=({ dst:=some 51,op:=Op.binOp BinOp.add 3 (Operand.tmp 44) (Operand.tmp 50) 3,type:=3,pos:=_,after:=_,guard:=none }:Oper)) (v:=.int .i64 ((f1:Int)+(p1:Int))) rfl (by kernel_rfl) (by kernel_rfl) (by kernel_rfl) (fun _ _ _ h=>h) (Or.inl ⟨by rfl,?_⟩) hSS ?_
 ·intro w9 hSw
  (try dsimp only at hSw)
  (try go_split_ands)
  first | (go_simp;done) | (go_simp;simp[hwr];done)
 try simp only[put,zA,zB,zC]
 refine Ri 18 rfl (fun K9 hK9=>?_)
 go_simp
 refine hK9.out _ _ hk4 (fun hSS=>?_)
 try simp only[put,zA,zB,zC]
 refine Ti 19 rfl ?_
 simp only[put,zA,zB,zC]
 refine Dn ?_
 rw[<- hw3a]
 clear hSS kS hk3 hk4 hw3a
 go_wp2_with fail
 refine Calls.mono H3.out ?_
 rintro e w4 ⟨rfl,st,k1,h4⟩
 have H4:=hid h4
 clear h4 H3
 go_wp2_with fail
 refine Calls.mono H4.out ?_
 rintro e w5 ⟨t,rfl,k4,h5⟩
 have H5:=hid h5
 clear h5 H4 k1
 go_wp2_with fail
 refine Calls.mono H5.out ?_
 rintro e w6 ⟨g1,n1,c1,rfl,LO,hl0,hla,hlc⟩
 have HL0:=hid hl0
 have HLA:=hid hla
 have HLC:=hid hlc
 have hne1:∀(u:World),(binOp .eql 37 (.slice (some ⟨g1,0,none⟩) n1 c1) (.slice none 0 0)).run Tryz.prog u=.ok (.bool false) u:=fun u=>Lib.run_eql_slice_nil u 37 3 (some ⟨g1,0,none⟩) n1 c1 0 0 Tryz.underlying37
 clear hl0 hla hlc H5 k4
 go_wp2_with fail
 refine Calls.mono (num_any 0 w6) ?_
 rintro e w9 ⟨rfl,hw9⟩
 rw[hw9]
 clear hw9
 go_wp2_with fail
 go_loopw [14] (fun iv wr=>∃i:Nat,i<=M/\iv=.int .i64 (i:Int)/\LO i wr) (fun iv _=>M-(intOf iv).toNat)
 case atStart=>exact⟨0,Nat.zero_le _,rfl,HL0.out⟩
 case round=>
 clear HL0
 rename World=>wo
 obtain⟨i,hiM,rfl,hd⟩:=hrel
 by_cases hi:i<M
 ·as_aux_lemma=>
   have hi':(i:Int)<(M:Int):=by omega
   obtain rfl:=hsa.resolve_left (by omega)
   obtain⟨wh,kd,bb,tt,⟨e0,e1,e2,e3⟩,hA⟩:=HLA.out i wo hi hd
   obtain⟨h6,h7,h8,h12,h13,hnx⟩:=hA _ _ rfl rfl
   clear HLA HLC hd hA
   rcases (show kd=6\/kd=7\/kd=8\/kd=12\/kd=13\/(kd≠6/\kd≠7/\kd≠8/\kd≠12/\kd≠13) by omega) with hk | hk | hk | hk | hk | ⟨n6,n7,n8,n12,n13⟩
   ·subst hk
    obtain⟨k3,hc⟩:=h6 rfl
    have HC:=hid hc
    clear hc h6 h7 h8 h12 h13 hnx
    go_wp2_with fail
    refine Calls.mono HC.out ?_
    rintro e w1 ⟨v,rfl,hn⟩
    have NX:=hid hn
    clear hn HC
    go_wp2_with fail
    go_roundw
    case rel=>exact⟨i+1,by omega,by go_num,NX.out⟩
    case measure=>simp[intOf];omega
   ·subst hk
    obtain⟨kS,hc⟩:=h7 rfl
    have HC:=hid hc
    clear hc h6 h7 h8 h12 h13 hnx
    go_wp2_with fail
    refine Gz (S:=fun w'=>w'.cell? ⟨o,3,none⟩=some (.pointer (some ⟨x0,0,none⟩))/\w'.cell? ⟨wo.heap.size,2,none⟩=some (.int .i64 bb)) kS (fun hSS=>?_)
    refine Ti 0 rfl ?_
    refine Ti 1 rfl ?_
    refine Ti 2 rfl ?_
    simp only[put,zA,zB,zC]
    refine Ti 3 rfl ?_
    refine Ti 4 rfl ?_
    refine Ti 5 rfl ?_
    simp only[put,zA,zB,zC]
    refine Ti 6 rfl ?_
    refine Ti 7 rfl ?_
    simp only[put,zA,zB,zC]
    refine Ri 8 rfl (fun K9 hK9=>?_)
    go_simp
    go_at_call 25
    refine Calls.mono HC.out ?_
    rintro e w1 ⟨v,rfl,hk1,hn⟩
    have NX:=hid hn
    clear hn HC
    refine hK9.out _ _ hk1 (fun hSS=>?_)
    try simp only[put,zA,zB,zC]
    refine Dn ?_
    clear hSS kS hk1
    go_wp2_with fail
    go_roundw
    case rel=>exact⟨i+1,by omega,by go_num,NX.out⟩
    case measure=>simp[intOf];omega
   ·subst hk
    obtain⟨kS,hc⟩:=h8 rfl
    have HC:=hid hc
    clear hc h6 h7 h8 h12 h13 hnx
    go_wp2_with fail
    refine Gz (S:=fun w'=>w'.cell? ⟨o,3,none⟩=some (.pointer (some ⟨x0,0,none⟩))/\w'.cell? ⟨wo.heap.size,2,none⟩=some (.int .i64 bb)) kS (fun hSS=>?_)
    refine Ti 0 rfl ?_
    refine Ti 1 rfl ?_
    simp only[put,zA,zB,zC]
    refine Ti 2 rfl ?_
    refine Ti 3 rfl ?_
    refine Ti 4 rfl ?_
    simp only[put,zA,zB,zC]
    refine Ti 5 rfl ?_
    refine Ti 6 rfl ?_
    refine Ti 7 rfl ?_
    simp only[put,zA,zB,zC]
    refine Ri 8 rfl (fun K9 hK9=>?_)
    go_simp
    go_at_call 26
    refine Calls.mono HC.out ?_
    rintro e w1 ⟨v,rfl,hk1,hn⟩
    have NX:=hid hn
    clear hn HC
    refine hK9.out _ _ hk1 (fun hSS=>?_)
    try simp only[put,zA,zB,zC]
    refine Dn ?_
    clear hSS kS hk1
    go_wp2_with fail
    go_roundw
    case rel=>exact⟨i+1,by omega,by go_num,NX.out⟩
    case measure=>simp[intOf];omega
   ·subst hk
    obtain⟨kS,hc⟩:=h12 rfl
    have HC:=hid hc
    clear hc h6 h7 h8 h12 h13 hnx
    go_wp2_with fail
    refine Gz (S:=fun w'=>w'.cell? ⟨o,3,none⟩=some (.pointer (some ⟨x0,0,none⟩))/\w'.cell? ⟨wo.heap.size,2,none⟩=some (.int .i64 bb)) kS (fun hSS=>?_)
    refine Ti 0 rfl ?_
    simp only[put,zA,zB,zC]
    refine Ti 1 rfl ?_
    refine Ti 2 rfl ?_
    refine Ti 3 rfl ?_
    simp only[put,zA,zB,zC]
    refine Ti 4 rfl ?_
    refine Ti 5 rfl ?_
    refine Ti 6 rfl ?_
    simp only[put,zA,zB,zC]
    refine Ti 7 rfl ?_
    simp only[put,zA,zB,zC]
    refine Ri 8 rfl (fun K9 hK9=>?_)
    go_simp
    go_at_call 27
    refine Calls.mono HC.out ?_
    rintro e w1 ⟨v,rfl,hk1,hn⟩
    have NX:=hid hn
    clear hn HC
    refine hK9.out _ _ hk1 (fun hSS=>?_)
    try simp only[put,zA,zB,zC]
    refine Dn ?_
    clear hSS kS hk1
    go_wp2_with fail
    go_roundw
    case rel=>exact⟨i+1,by omega,by go_num,NX.out⟩
    case measure=>simp[intOf];omega
   ·subst hk
    obtain⟨kS,hc⟩:=h13 rfl
    have HC:=hid hc
    clear hc h6 h7 h8 h12 h13 hnx
    go_wp2_with fail
    refine Gz (S:=fun w'=>w'.cell? ⟨o,5,none⟩=some (.int .i64 65)/\w'.cell? ⟨o,7,none⟩=some (.int .i64 (r0:Int))/\w'.cell? ⟨wo.heap.size,2,none⟩=some (.int .i64 bb)) kS (fun hSS=>?_)
    refine Ti 0 rfl ?_
    refine Ti 1 rfl ?_
    refine Ti 2 rfl ?_
    simp only[put,zA,zB,zC]
    refine Ti 3 rfl ?_
    refine Ti 4 rfl ?_
    refine Ti 5 rfl ?_
    simp only[put,zA,zB,zC]
    refine Ti 6 rfl ?_
    refine Ti 7 rfl ?_
    refine Ti 8 rfl ?_
    simp only[put,zA,zB,zC]
    refine Ti 9 rfl ?_
    refine Ti 10 rfl ?_
    refine Ti 11 rfl ?_
    simp only[put,zA,zB,zC]
    refine Ti 12 rfl ?_
    simp only[put,zA,zB,zC]
    refine Ri 13 rfl (fun K9 hK9=>?_)
    go_simp
    go_at_call 18
    refine Calls.mono HC.out ?_
    rintro e w1 ⟨v,rfl,hk1,hn⟩
    have NX:=hid hn
    clear hn HC
    refine hK9.out _ _ hk1 (fun hSS=>?_)
    try simp only[put,zA,zB,zC]
    refine Dn ?_
    clear hSS kS hk1
    go_wp2_with fail
    go_roundw
    case rel=>exact⟨i+1,by omega,by go_num,NX.out⟩
    case measure=>simp[intOf];omega
   ·have NX:=hid (hnx n6 n7 n8 n12 n13)
    clear h6 h7 h8 h12 h13 hnx
    go_wp2_with fail
    go_roundw
    case rel=>exact⟨i+1,by omega,by go_num,NX.out⟩
    case measure=>simp[intOf];omega
 ·have hi':¬(i:Int)<(M:Int):=by omega
  have hie:i=M:=by omega
  subst hie
  obtain⟨k3,hC⟩:=HLC.out wo hd
  have HC:=hid hC
  clear HLA HLC hd hC hsa
  go_wp2_with fail
  refine Calls.mono HC.out ?_
  rintro e w1 ⟨gm,nm,cm,rfl,k4,h2⟩
  have H2:=hid h2
  have hne2:∀(u:World),(binOp .eql 37 (.slice (some ⟨gm,0,none⟩) nm cm) (.slice none 0 0)).run Tryz.prog u=.ok (.bool false) u:=fun u=>Lib.run_eql_slice_nil u 37 3 (some ⟨gm,0,none⟩) nm cm 0 0 Tryz.underlying37
  clear h2 HC k3
  go_wp2_with fail
  refine Calls.mono H2.out ?_
  rintro e w2 ⟨g2,c2,rfl,h3⟩
  have H3:=hid h3
  clear h3 H2 k4
  go_wp2_with fail
  refine Calls.mono H3.out ?_
  rintro e w3 ⟨rfl,h4⟩
  have H4:=hid h4
  clear h4 H3
  go_wp2_with fail
  refine Calls.mono H4.out ?_
  rintro e w4 ⟨rfl,h5⟩
  have H5:=hid h5
  clear h5 H4
  go_wp2_with fail
  refine Calls.mono (num_any 0 w4) ?_
  rintro e w9 ⟨rfl,hw9⟩
  rw[hw9]
  clear hw9
  go_wp2_with fail
  refine Calls.mono H5.out ?_
  rintro e w5 ⟨rfl,hD⟩
  have HD:=hid hD
  clear hD H5 hne1 hne2
  go_wp2_with fail
  go_loopw [17] (fun iv wr=>∃q:Nat,q<=2/\iv=.int .i64 (q:Int)/\((q=0/\KpD o w3a 0 64 900 (KpD o w3a 1 ((f1:Int)+(p1:Int)) 901 (KpE o gm cm nm g1 n1 c1 PO)) wr)\/(q=1/\KpD o w3a 1 ((f1:Int)+(p1:Int)) 901 (KpE o gm cm nm g1 n1 c1 PO) wr)\/(q=2/\KpE o gm cm nm g1 n1 c1 PO wr))) (fun iv _=>2-(intOf iv).toNat)
  case atStart=>exact⟨0,by decide,rfl,.inl ⟨rfl,HD.out⟩⟩
  case round=>
   clear HD
   rename World=>wq
   obtain⟨q,hq2,rfl,hR⟩:=hrel
   rcases hR with ⟨hq,hR⟩ | ⟨hq,hR⟩ | ⟨hq,hR⟩
   ·as_aux_lemma=>
    subst hq
    obtain⟨st2,kS,h2⟩:=hR
    have HC:=hid h2
    clear h2
    go_wp2_with fail
    refine Gz (S:=fun w'=>w'.cell? ⟨o,1,none⟩=some (.pointer (some ⟨st2,0,none⟩))/\w'.cell? ⟨w3a,0,none⟩=some (.int .i64 64)) kS (fun hSS=>?_)
    refine Ti 0 rfl ?_
    refine Ti 1 rfl ?_
    refine Ti 2 rfl ?_
    simp only[put,zA,zB,zC]
    refine Ti 3 rfl ?_
    refine Ti 4 rfl ?_
    refine Ti 5 rfl ?_
    simp only[put,zA,zB,zC]
    refine Ti 6 rfl ?_
    refine Ti 7 rfl ?_
    simp only[put,zA,zB,zC]
    refine Ri 8 rfl (fun K9 hK9=>?_)
    go_simp
    go_at_call 30
    refine Calls.mono HC.out ?_
    rintro e w6 ⟨g,cp,rfl,hk1,h3⟩
    have H3:=hid h3
    clear h3 HC
    refine hK9.out _ _ hk1 (fun hSS=>?_)
    try simp only[put,zA,zB,zC]
    refine Ti 9 rfl ?_
    refine Ti 10 rfl ?_
    refine Ti 11 rfl ?_
    simp only[put,zA,zB,zC]
    refine Ti 12 rfl ?_
    refine Ti 13 rfl ?_
    simp only[put,zA,zB,zC]
    refine Dn ?_
    clear hSS kS hk1
    go_wp2_with fail
    refine Calls.mono (num_any 0 w6) ?_
    rintro e w9 ⟨rfl,hw9⟩
    rw[hw9]
    clear hw9
    go_wp2_with fail
    refine Calls.mono H3.out ?_
    rintro e w7 ⟨g2,rfl,h4⟩
    have H4:=hid h4
    clear h4 H3
    go_wp2_with fail
    refine Calls.mono H4.out ?_
    rintro e w8 ⟨rfl,hn⟩
    have NX:=hid hn
    clear hn H4
    go_wp2_with fail
    go_roundw
    case rel=>exact⟨1,by decide,by go_num,.inr (.inl ⟨rfl,NX.out⟩)⟩
    case measure=>simp[intOf]
   ·as_aux_lemma=>
    subst hq
    obtain⟨st2,kS,h2⟩:=hR
    have HC:=hid h2
    clear h2
    go_wp2_with fail
    refine Gz (S:=fun w'=>w'.cell? ⟨o,1,none⟩=some (.pointer (some ⟨st2,0,none⟩))/\w'.cell? ⟨w3a,1,none⟩=some (.int .i64 ((f1:Int)+(p1:Int)))) kS (fun hSS=>?_)
    refine Ti 0 rfl ?_
    simp only[put,zA,zB,zC]
    refine Ti 1 rfl ?_
    refine Ti 2 rfl ?_
    refine Ti 3 rfl ?_
    simp only[put,zA,zB,zC]
    refine Ti 4 rfl ?_
    refine Ti 5 rfl ?_
    refine Ti 6 rfl ?_
    simp only[put,zA,zB,zC]
    refine Ti 7 rfl ?_
    simp only[put,zA,zB,zC]
    refine Ri 8 rfl (fun K9 hK9=>?_)
    go_simp
    go_at_call 30
    refine Calls.mono HC.out ?_
    rintro e w6 ⟨g,cp,rfl,hk1,h3⟩
    have H3:=hid h3
    clear h3 HC
    refine hK9.out _ _ hk1 (fun hSS=>?_)
    try simp only[put,zA,zB,zC]
    refine Ti 9 rfl ?_
    refine Ti 10 rfl ?_
    refine Ti 11 rfl ?_
    simp only[put,zA,zB,zC]
    refine Ti 12 rfl ?_
    refine Ti 13 rfl ?_
    simp only[put,zA,zB,zC]
    refine Dn ?_
    clear hSS kS hk1
    go_wp2_with fail
    refine Calls.mono (num_any 0 w6) ?_
    rintro e w9 ⟨rfl,hw9⟩
    rw[hw9]
    clear hw9
    go_wp2_with fail
    refine Calls.mono H3.out ?_
    rintro e w7 ⟨g2,rfl,h4⟩
    have H4:=hid h4
    clear h4 H3
    go_wp2_with fail
    refine Calls.mono H4.out ?_
    rintro e w8 ⟨rfl,hn⟩
    have NX:=hid hn
    clear hn H4
    go_wp2_with fail
    go_roundw
    case rel=>exact⟨2,by decide,by go_num,.inr (.inr ⟨rfl,NX.out⟩)⟩
    case measure=>simp[intOf]
   ·as_aux_lemma=>
    subst hq
    obtain⟨st2,y0,k1,h2⟩:=hR
    have H2:=hid h2
    clear h2
    go_wp2_with fail
    refine Calls.mono H2.out ?_
    rintro e w6 ⟨t2,rfl,k3,h3⟩
    have H3:=hid h3
    clear h3 H2 k1
    go_wp2_with fail
    refine Calls.mono H3.out ?_
    rintro e w7 ⟨gn,cn,y1,v0,rfl,⟨z1,z2,z3,z4⟩,kS,h4⟩
    have H4:=hid h4
    have z5:0<nm:=by omega
    have z6:(1:Int)<(nm:Int):=by omega
    have yy1:(2:Int)<=(nm:Int):=by omega
    have yy2:(nm:Int)<=(cn:Int):=by omega
    have yy3:(nm:Int)<=(cm:Int):=by omega
    have yy4:¬cn=2:=by omega
    have yy5:¬cm=2:=by omega
    clear h4 H3 k3
    go_wp2_with fail
    refine Gz (S:=fun w'=>w'.cell? ⟨o,4,none⟩=some (.pointer (some ⟨y1,0,none⟩))/\w'.cell? ⟨gn,0,none⟩=some (.int .i64 v0)/\w'.cell? ⟨gm,0,none⟩=some (.int .i64 v0)) kS (fun hSS=>?_)
    refine Ti 0 rfl ?_
    simp only[put,zA,zB,zC]
    refine Ri 1 rfl (fun K9 hK9=>?_)
    go_simp
    go_at_call 11
    refine Calls.mono (num_any 0 _) ?_
    rintro e w9 ⟨rfl,hw9⟩
    rw[hw9]
    clear hw9
    refine hK9.out _ _ kS (fun hSS=>?_)
    try simp only[put,zA,zB,zC]
    refine Ti 2 rfl ?_
    refine Ti 3 rfl ?_
    simp only[put,zA,zB,zC]
    refine Ti 4 rfl ?_
    refine Ti 5 rfl ?_
    simp only[put,zA,zB,zC]
    refine Ti 6 rfl ?_
    refine Ti 7 rfl ?_
    simp only[put,zA,zB,zC]
    refine Ti 8 rfl ?_
    refine Ti 9 rfl ?_
    simp only[put,zA,zB,zC]
    refine Ti 10 rfl ?_
    refine Ti 11 rfl ?_
    simp only[put,zA,zB,zC]
    refine Ti 12 rfl ?_
    refine Ti 13 rfl ?_
    simp only[put,zA,zB,zC]
    refine Ti 14 rfl ?_
    refine Ti 15 rfl ?_
    simp only[put,zA,zB,zC]
    refine Ti 16 rfl ?_
    refine Ti 18 rfl ?_
    simp only[put,zA,zB,zC]
    refine Ri 17 rfl (fun K9 hK9=>?_)
    go_simp
    go_at_call 23
    refine Calls.mono H4.out ?_
    rintro e w8 ⟨g3,c3,rfl,hk1,h5⟩
    have H5:=hid h5
    clear h5 H4
    refine hK9.out _ _ hk1 (fun hSS=>?_)
    try simp only[put,zA,zB,zC]
    refine Ri 19 rfl (fun K9 hK9=>?_)
    go_simp
    go_at_call 28
    refine Calls.mono H5.out ?_
    rintro e w9 ⟨rfl,hk2,u1,u2,hu,kT,h6⟩
    have H6:=hid h6
    clear h6 H5
    refine hK9.out _ _ hk2 (fun hSS=>?_)
    try simp only[put,zA,zB,zC]
    refine Ti 20 rfl ?_
    refine Ti 21 rfl ?_
    simp only[put,zA,zB,zC]
    refine Ti 22 rfl ?_
    refine Ti 23 rfl ?_
    simp only[put,zA,zB,zC]
    refine Ti 24 rfl ?_
    simp only[put,zA,zB,zC]
    refine Ti 25 rfl ?_
    refine Ti 26 rfl ?_
    simp only[put,zA,zB,zC]
    refine Ti 27 rfl ?_
    refine Ti 28 rfl ?_
    simp only[put,zA,zB,zC]
    refine Ti 29 rfl ?_
    refine Ti 30 rfl ?_
    simp only[put,zA,zB,zC]
    refine Dn ?_
    clear hSS kS hk1 hk2
    go_wp2_with fail
    refine Gz (S:=fun w'=>w'.cell? ⟨gn,1,none⟩=some (.int .i64 u1)/\w'.cell? ⟨gm,1,none⟩=some (.int .i64 u2)) kT (fun hSS=>?_)
    refine Ti 0 rfl ?_
    simp only[put,zA,zB,zC]
    refine wpAnyH_take (i:=1) (oi:=({ dst:=some 257,op:=Op.slice 37 (Operand.tmp 256) (some (Operand.const (Value.int IntKind.i64 2))) none none,type:=37,pos:=_,after:=_,guard:=none }:Oper)) (v:=.slice (some ⟨gn,2,none⟩) (nm-2) (cn-2)) rfl (by kernel_rfl) (by kernel_rfl) (by kernel_rfl) (fun _ _ _ h=>h) (Or.inl ⟨by rfl,?_⟩) hSS ?_
    ·intro w9 hSw
     (try dsimp only at hSw)
     (try go_split_ands)
     first | (go_simp;done) | (go_simp;simp[yy1,yy2,yy4];done)
    try simp only[put,zA,zB,zC]
    refine Ti 2 rfl ?_
    simp only[put,zA,zB,zC]
    refine wpAnyH_take (i:=3) (oi:=({ dst:=some 259,op:=Op.slice 37 (Operand.tmp 258) (some (Operand.const (Value.int IntKind.i64 2))) none none,type:=37,pos:=_,after:=_,guard:=none }:Oper)) (v:=.slice (some ⟨gm,2,none⟩) (nm-2) (cm-2)) rfl (by kernel_rfl) (by kernel_rfl) (by kernel_rfl) (fun _ _ _ h=>h) (Or.inl ⟨by rfl,?_⟩) hSS ?_
    ·intro w9 hSw
     (try dsimp only at hSw)
     (try go_split_ands)
     first | (go_simp;done) | (go_simp;simp[yy1,yy3,yy5];done)
    try simp only[put,zA,zB,zC]
    refine Ri 4 rfl (fun K9 hK9=>?_)
    go_simp
    go_at_call 28
    refine Calls.mono H6.out ?_
    rintro e w10 ⟨rfl,hk3,hF⟩
    have FIN:=hid hF
    clear hF H6
    refine hK9.out _ _ hk3 (fun hSS=>?_)
    try simp only[put,zA,zB,zC]
    refine Ti 5 rfl ?_
    simp only[put,zA,zB,zC]
    refine Ti 6 rfl ?_
    refine Ti 7 rfl ?_
    simp only[put,zA,zB,zC]
    refine Ti 8 rfl ?_
    refine Ti 9 rfl ?_
    simp only[put,zA,zB,zC]
    refine Ti 10 rfl ?_
    refine Ti 11 rfl ?_
    simp only[put,zA,zB,zC]
    refine Ti 12 rfl ?_
    refine Ti 13 rfl ?_
    simp only[put,zA,zB,zC]
    refine Ti 14 rfl ?_
    simp only[put,zA,zB,zC]
    refine Dn ?_
    clear hSS kT hk3
    go_wp2
    exact FIN.out
open Go.RowKit Go.Deep
theorem KpL.fin{zb:Nat}{c1 cap1 ab y1 Z1:Nat}(h:KpL w0 o (wcs (.pointer (some ⟨F.p,0,none⟩)) (.pointer (some ⟨F.st,0,none⟩)) Fo (.pointer (some ⟨x0,0,none⟩)) (.pointer (some ⟨x1,0,none⟩)) 65 f1 r0 r1 (.pointer none) Ov false) x0 x1 F f1 r0 r1 Rs t N zb C (fun _=>0) M W)(hz:zb+M+20000<16000000)(hr:r0<=2800/\r1<=2800)(hN:N<1000000)(hf:f1=65+pagesN r0)(hnb:f1+pagesN r1<F.nb)(ho:w0.heap.size<=o)(T1:Tst C (fun _=>none) f1 r1 F.nb Z1 c1 (fun _=>0) (fun _=>0))(hZ1:Z1<=zb)(hg:(.slice (some ⟨g1,0,none⟩) (c1+2) cap1,cntL (fun _=>0) (fun _=>0) c1)∈Rs)(hab:(.slice (some ⟨ab,0,none⟩) 2 2,[64,(y1:Int)])∈Rs)(hy:y1=f1+pagesN r1)(hC0:C 64=blkZ 900)(hC1:C y1=blkZ 901)(hPO:∀w',Below w0.heap.size w0 w'->PO (.returned (.bool true)) w') :
  KpC o x0 x1 t g1 (c1+2) cap1 ab (y1:Int) PO W:=by
 obtain⟨Y,L,sz,cn,hO,hT,hL,hk⟩:=h
 obtain⟨Z,hZ⟩:∃Z,Z=zb+M:=⟨_,rfl⟩
 rw[<- hZ]at hO hT
 have hs0:=hT.sz1
 have hs1:=T1.sz1
 have hr0:=hT.hP.hr
 have hr1:=T1.hP.hr
 have hp0:=pagesN_hi hr0.1
 have hp1:=pagesN_lo hr1.1
 have T1L:Tst C L f1 r1 F.nb Z1 c1 (fun _=>0) (fun _=>0):=T1.aside (fun y a1 _=>hL y (.inr (by omega)))
 refine⟨hk.wb.cell 3,Calls.mono (counted_any hO hk.s0 hk.n0 (by omega) hT) ?_⟩
 rintro e w1 ⟨tvm,Ym,rfl,rm,rmY,o1,g1',b1⟩
 obtain⟨gm,cm,rfl⟩:=row_some rm (by omega)
 have rm':w1.ownsRow W.heap.size 3 1 (.slice (some ⟨gm,0,none⟩) (sz+2) cm) (cntL cn (fun _=>0) sz).length ((cntL cn (fun _=>0) sz).map (Value.int .i64)):=by rw[cntL_len];exact rm
 have k1:=(hk.step b1 g1').push rm' hk.bel.size rmY
 refine⟨gm,sz+2,cm,rfl,k1.wb.cell 4,Calls.mono (counted_any o1 k1.s1 k1.n1 (by omega) (T1L.mono (by omega))) ?_⟩
 rintro e w2 ⟨tv2,Y2,rfl,r2,r2Y,o2,g2,b2⟩
 obtain⟨ga,ca,rfl⟩:=row_some r2 (by omega)
 have k2:=k1.step b2 g2
 have ro:=(k2.rs _ (List.mem_cons_of_mem _ hg)).1
 simp only[cntL_len]at ro
 refine⟨ga,ca,rfl,Calls.mono (SameInts_eq w2.heap.size _ _ _ _ _ _ w2 (Nat.le_refl _) (by omega) (row_rdi r2).1 (row_rdi ro).1) ?_⟩
 rintro e w3 ⟨rfl,b3⟩
 have k3:=k2.below b3
 have o3:=o2.below b3
 refine⟨rfl,Calls.mono (o3.commit (f:=65) (m:=pagesN r0) (by omega) (by omega) (fun y hy'=>?_)) ?_⟩
 ·by_cases e:65<=y/\y<65+pagesN r0
  ·exact e
  ·rw[hL y (by omega)]at hy'
   cases hy'
 rintro e w4 ⟨Y4,rfl,⟨K4,hK4,i4⟩,g4,b4⟩
 have k4:=k3.step b4 g4
 refine⟨rfl,again_nil (k4.wb.cell 9) (agr_any i4 k4.wb k4.no (by omega) (by omega) hr0 hr1 _ (fun w5 hP=>⟨rfl,?_⟩))⟩
 obtain⟨F5,z0,z1,t5,Y5,hn5,i5,wb5,⟨s05,s15⟩,⟨n05,n15,no5⟩,_,y5,_,b5⟩:=hP
 have s4:=k4.bel.size
 have k5:KsS w0 o (wcs (.pointer (some ⟨F5.p,0,none⟩)) (.pointer (some ⟨F5.st,0,none⟩)) Fo (.pointer (some ⟨z0,0,none⟩)) (.pointer (some ⟨z1,0,none⟩)) 65 f1 r0 r1 (.pointer none) (.pointer (some ⟨t5,0,none⟩)) false) z0 z1 F5 f1 r0 r1 ((.slice (some ⟨gm,0,none⟩) (sz+2) cm,cntL cn (fun _=>0) sz) :: Rs) Y5 w5:=by
  refine⟨k4.bel.trans (b5.below s4 (fun k hk q=>?_)),fun k q=>Nat.le_trans s4 (y5 k q),wb5,no5,s05,n05,s15,n15,fun p hp=>?_⟩
  ·rcases q with q | q
   ·have:=k4.y k q
    omega
   ·omega
  ·obtain⟨a1,a2⟩:=k4.rs p hp
   refine⟨owns_keep a1 (fun g' e=>b5.block g' (World.ownsRow.lt a1 g' e).2 (fun q=>?_)),fun q e e2=>?_⟩
   ·rcases q with q | q
    ·exact a2 g' e q
    ·subst q
     rcases a1.2 with ⟨q,_⟩ | ⟨gg,c',cur,q,_,hgg,_⟩
     ·rw[q]at e
      cases e
     ·rw[q]at e
      have e':gg=g':=Option.some.inj e
      subst e'
      have:=k4.wb
      unfold Wlb at this
      rw[hgg]at this
      cases this
   ·have:=(World.ownsRow.lt a1 q e).2
    have:=y5 q e2
    omega
 have hL64:L 64=none:=hL 64 (.inl (by omega))
 have hLy:L y1=none:=hL y1 (.inr (by omega))
 refine kpd_any (y:=64) i5 k5 rfl (List.mem_cons_of_mem _ hab) ⟨by decide,rfl⟩ rfl (by omega) (by omega) (by show (L 64).getD (C 64)=_;rw[hL64];exact hC0) (fun Y6 w6 i6 k6=>?_)
 refine kpd_any (y:=y1) i6 k6 rfl (List.mem_cons_of_mem _ hab) ⟨by decide,rfl⟩ rfl (by omega) (by omega) (by show (L y1).getD (C y1)=_;rw[hLy];exact hC1) (fun Y7 w7 i7 k7=>?_)
 have T0':=(hT.fresh (C':=fun y=>(L y).getD (C y)) (fun _ _ _=>rfl)).mono (M':=Z+10) (by omega)
 have T1':=(T1L.fresh (C':=fun y=>(L y).getD (C y)) (fun _ _ _=>rfl)).mono (M':=Z+10) (by omega)
 rw[<- hn5]at T0' T1'
 exact kpe_any (Z:=Z+10) ⟨2+1+1,by omega,i7⟩ k7 rfl rfl rfl T0' T1' (List.mem_cons_self ..) (List.mem_cons_of_mem _ hg) (by omega) hPO
theorem kept_law(a b c d:Int)(sa:Option Addr)(M sc sb so:Nat)(w:World)(hM:M<=1048576)(hsa:M=0\/sa=some ⟨sb,so,none⟩)(hsb:M=0\/sb<w.heap.size)(hcl:∀i,i<M->∃wh kd b tt:Int,w.cell? ⟨sb,so+i * 4,none⟩=some (.int .i64 wh)/\w.cell? ⟨sb,so+i * 4+1,none⟩=some (.int .i64 kd)/\w.cell? ⟨sb,so+i * 4+2,none⟩=some (.int .i64 b)/\w.cell? ⟨sb,so+i * 4+3,none⟩=some (.int .i64 tt)) :
  Calls Tryz.prog 5 #[.agg #[.int .i64 a,.int .i64 b],.agg #[.int .i64 c,.int .i64 d],.slice sa M sc] w fun e w'=>e=.returned (.bool true)/\Below w.heap.size w w':=by
 refine kept_walk hsa (by omega) ?_
 obtain⟨W0,hW0⟩:∃W0,W0=(w.alloc (.cells #[.int .i64 a,.int .i64 b] 26)).alloc (.cells #[.int .i64 c,.int .i64 d] 26):=⟨_,rfl⟩
 have b0:Below w.heap.size w W0:=by rw[hW0];exact ((Below.refl _ _).alloc (Nat.le_refl _) _).alloc (by simp) _
 rw[<- hW0]
 refine begun_walk6 a b c d W0 _ (fun r0 r1 c0 c1 D hr0 hr1 hc0 hc1 bD=>?_)
 have hp0:=pagesN_hi hr0.1
 have hp1:=pagesN_hi hr1.1
 have hq0:=pagesN_lo hr0.1
 have hq1:=pagesN_lo hr1.1
 refine Calls.mono (world_any (by omega) (by omega) hc0 hc1 (by omega) D) ?_
 rintro e wa ⟨o,x0,x1,F,F2,Y,Y2,t0,t2,rfl,hw,hnb,hi,_,ba⟩
 refine⟨o,rfl,ba,fun kb tv0 tv1 w1 hkb b1 _ _=>?_⟩
 refine⟨o,kb,x0,x1,65+pagesN r0,r0,r1,pagesN r1,rfl,⟨by omega,by omega⟩,?_⟩
 have bwD:Below w.heap.size w D:=b0.trans (bD.mono b0.size)
 have bwa:Below w.heap.size w wa:=bwD.trans (ba.mono bwD.size)
 have sD:=bwD.size
 have sa':=ba.size
 have hol:=hw.wb.lt
 have k1:KsS w o (wcs (.pointer (some ⟨F.p,0,none⟩)) (.pointer (some ⟨F.st,0,none⟩)) (.pointer (some ⟨t2,0,none⟩)) (.pointer (some ⟨x0,0,none⟩)) (.pointer (some ⟨x1,0,none⟩)) 65 (65+pagesN r0) r0 r1 (.pointer none) (.pointer (some ⟨t0,0,none⟩)) false) x0 x1 F (65+pagesN r0) r0 r1 [] Y wa:=⟨bwa,fun k q=>by have:=hw.ap.y k q;omega,hw.wb,hw.no.1,hw.s0,hw.no.2.1,hw.s1,hw.no.2.2,fun p hp=>by cases hp⟩
 have i1:IdlZ Y wa F 1 1 (Cw F.nb r0 r1 c0 c1):=⟨_,by omega,hi⟩
 have kd:=(k1.below b1).below (Below.drew1 w1)
 have id:=(i1.below b1).below (Below.drew1 w1)
 refine⟨⟨kd.wb.cell 5,kd.wb.cell 6,kd.wb.cell 8⟩,Calls.mono (lblocks_any hr1.1 (by omega) w1.drew) ?_⟩
 rintro e w3 ⟨rfl,b3⟩
 have k3:=kd.below b3
 have i3:=id.below b3
 have bA:Below w3.heap.size w3 (w3.alloc (.cells #[.int .i64 64,.int .i64 (((65+pagesN r0:Nat):Int)+(pagesN r1:Int))] 3)):=(Below.refl _ _).alloc (Nat.le_refl _) _
 have k4:=k3.below bA
 refine⟨rfl,⟨k3.wb.cell 5,k3.wb.cell 6,k3.wb.cell 8⟩,⟨k4.wb.cell 5,k4.wb.cell 6,k4.wb.cell 8⟩,fun ab hab=>?_⟩
 obtain⟨y1,hy1⟩:∃y1,y1=65+pagesN r0+pagesN r1:=⟨_,rfl⟩
 have ey:(((65+pagesN r0:Nat):Int)+(pagesN r1:Int))=(y1:Int):=by omega
 rw[ey]at bA k4 ⊢
 have rab:(w3.alloc (.cells #[.int .i64 64,.int .i64 (y1:Int)] 3)).ownsRow w3.heap.size 3 1 (.slice (some ⟨ab,0,none⟩) 2 2) ([64,(y1:Int)]:List Int).length (([64,(y1:Int)]).map (Value.int .i64)):=by
  refine⟨rfl,.inr ⟨ab,2,#[.int .i64 64,.int .i64 (y1:Int)],rfl,by omega,by rw[hab];exact Array.getElem?_push_size,Nat.le_refl _,by decide,rfl,rfl⟩⟩
 have k5:=k4.push rab k3.bel.size (fun q e e2=>by
  have:=i3.lt q e2
  have hq:ab=q:=Option.some.inj e
  omega)
 refine Calls.mono (marked_any (y1:=y1) (m:=2+pagesN r0+pagesN r1) (i3.below bA) k5 rfl (List.mem_cons_self ..) (by omega) (by omega) (by omega) (by omega)) ?_
 rintro e w4 ⟨rfl,Y6,i6,k6,_⟩
 refine⟨rfl,F.st,k6.wb.cell 1,Calls.mono i6.begin ?_⟩
 rintro e w5 ⟨t,Y7,rfl,o7,_,g7,b7⟩
 have k7:=k6.step b7 g7
 have T0w:Tst (Cw F.nb r0 r1 c0 c1) (fun _=>none) 65 r0 F.nb 0 c0 (fun _=>0) (fun _=>0):=Tst.laid (by omega) hc0 (by omega) (by omega) (fun j hj=>by
  unfold Cw L2w
  rw[layL_apply,if_neg (by omega),layL_apply,if_pos (by omega),Nat.add_sub_cancel_left]
  rfl) (fun _ _ _=>rfl)
 have T1w:Tst (Cw F.nb r0 r1 c0 c1) (fun _=>none) (65+pagesN r0) r1 F.nb 0 c1 (fun _=>0) (fun _=>0):=Tst.laid (by omega) hc1 (by omega) (by omega) (fun j hj=>by
  unfold Cw L2w
  rw[layL_apply,if_pos (by omega),Nat.add_sub_cancel_left]
  rfl) (fun _ _ _=>rfl)
 obtain⟨C1,hC1⟩:∃C1:Nat->List Int,C1=fun y=>(putL (putL (fun _=>none) 64 (blkZ 900)) y1 (blkZ 901) y).getD (Cw F.nb r0 r1 c0 c1 y):=⟨_,rfl⟩
 rw[<- hC1]at o7
 have hCo:∀y,y≠64->y≠y1->C1 y=Cw F.nb r0 r1 c0 c1 y:=fun y a1 a2=>by
  rw[hC1]
  have e:putL (putL (fun _=>none) 64 (blkZ 900)) y1 (blkZ 901) y=none:=by
   unfold putL
   rw[if_neg a2,if_neg a1]
  simp only[e,Option.getD_none]
 have hC64:C1 64=blkZ 900:=by
  rw[hC1]
  have e:putL (putL (fun _=>none) 64 (blkZ 900)) y1 (blkZ 901) 64=some (blkZ 900):=by
   unfold putL
   rw[if_neg (by omega),if_pos rfl]
  simp only[e,Option.getD_some]
 have hCy:C1 y1=blkZ 901:=by
  rw[hC1]
  have e:putL (putL (fun _=>none) 64 (blkZ 900)) y1 (blkZ 901) y1=some (blkZ 901):=by
   unfold putL
   rw[if_pos rfl]
  simp only[e,Option.getD_some]
 have T0:=(T0w.fresh (C':=C1) (fun y a1 a2=>hCo y (by omega) (by omega))).mono (M':=10) (by omega)
 have T1:=(T1w.fresh (C':=C1) (fun y a1 a2=>hCo y (by omega) (by omega))).mono (M':=10) (by omega)
 refine⟨t,rfl,k7.wb.cell 4,Calls.mono (counted_any (o7.mono (Z':=10) (by omega)) k7.s1 k7.n1 (by omega) T1) ?_⟩
 rintro e w6 ⟨tvo,Y8,rfl,ro,roY,o8,g8,b8⟩
 obtain⟨g1,cap1,rfl⟩:=row_some ro (by omega)
 have ro':w6.ownsRow w5.heap.size 3 1 (.slice (some ⟨g1,0,none⟩) (c1+2) cap1) (cntL (fun _=>0) (fun _=>0) c1).length ((cntL (fun _=>0) (fun _=>0) c1).map (Value.int .i64)):=by rw[cntL_len];exact ro
 have k8:=(k7.step b8 g8).push ro' k7.bel.size roY
 refine⟨g1,c1+2,cap1,rfl,KpL w o _ x0 x1 F _ r0 r1 _ t 2 3000 C1 (fun _=>0),⟨Y8,fun _=>none,c0,_,o8.mono (by omega),T0.mono (by omega),fun _ _=>rfl,k8⟩,fun i W hi hl=>?_,fun W hl=>?_⟩
 ·exact hl.act (by omega) (by omega) rfl rfl rfl (hsb.resolve_left (by omega)) (hcl i hi)
 ·have:=hl.fin (M:=M) (c1:=c1) (g1:=g1) (cap1:=cap1) (ab:=ab) (y1:=y1) (Z1:=10) (PO:=fun e w'=>e=.returned (.bool true)/\Below w.heap.size w w') (by omega) (by omega) (by omega) rfl (by omega) (by have:=hw.bb.1;omega) T1 (by omega) (List.mem_cons_self ..) (List.mem_cons_of_mem _ (List.mem_cons_self ..)) hy1 hC64 hCy (fun w' hb=>⟨rfl,hb⟩)
  exact this
end Go.Proofs.YtlefjidbpjkhlaaGreat
