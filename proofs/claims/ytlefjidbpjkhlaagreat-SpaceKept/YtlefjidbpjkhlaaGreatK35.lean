import Derived.Test.YtlefjidbpjkhlaaGreatK33
import Derived.Test.YtlefjidbpjkhlaaGreatK11
import Derived.Test.YtlefjidbpjkhlaaGreatK34
set_option maxRecDepth 100000
set_option maxHeartbeats 16000000
namespace Go.Proofs.YtlefjidbpjkhlaaGreat
variable {B K N f k n q r t x:Nat}
variable {Y Y':Nat->Prop}
variable {z1 z2:List Int}
variable {v:Value}
variable {w:World}
variable {F:Cf}
variable {C:Nat->List Int}
variable {L:Nat->Option (List Int)}
variable {Ms:List (Nat->Option (List Int))}
variable {lf zk:Int}
variable {ab:Bool}
open Go.RowKit Go.Deep
section
variable {Y:Nat->Prop} {w0:World} {F:Cf} {K N:Nat} {C:Nat->List Int} {t:Nat} {L:Nat->Option (List Int)} {Ms:List (Nat->Option (List Int))} {n:Nat} {x f r k gb:Nat} {sz lf bk zk:Int} {b ab:Bool} {q4 q5:Nat} {v4 v5:Value} {g cp g2 cp2:Nat} {A:World}
theorem GfS.boxes(h:GfS Y w0 F K N C t L Ms n x f r k gb sz lf bk zk b ab 2 (some q4) (some q5) v4 v5 g cp g2 cp2 A):(A.cell? ⟨q4,0,none⟩=some v4/\A.frozen? ⟨q4,0,none⟩=false/\A.cell? ⟨q5,0,none⟩=some v5/\A.frozen? ⟨q5,0,none⟩=false):=by
 obtain⟨hc,Y',h1,h2,h3,h4,h5,h6,h7⟩:=h
 exact⟨(h4 q4 rfl).cell,(h4 q4 rfl).frozen,(h5 q5 rfl).cell,(h5 q5 rfl).frozen⟩
theorem GfQ.set(h:GfQ B Y' A z1 z2 g cp g2 cp2)(hq:Bxk B Y' A q v)(u:Value):GfQ B Y' (A.setCell ⟨q,0,none⟩ u) z1 z2 g cp g2 cp2:=⟨⟨h.1.1.keep ((but_set A q 0 u).block g h.1.1.lt (hq.ne h.1.1)),h.1.2⟩,⟨h.2.1.1.keep ((but_set A q 0 u).block g2 h.2.1.1.lt (hq.ne h.2.1.1)),h.2.1.2⟩,h.2.2⟩
theorem GfS.set4(h:GfS Y w0 F K N C t L Ms n x f r k gb sz lf bk zk b ab 2 (some q4) (some q5) v4 v5 g cp g2 cp2 A)(u:Value):GfS Y w0 F K N C t L Ms n x f r k gb sz lf bk zk b ab 2 (some q4) (some q5) u v5 g cp g2 cp2 (A.setCell ⟨q4,0,none⟩ u):=by
 obtain⟨hc,Y',h1,h2,h3,h4,h5,h6,h7⟩:=h
 have b:=but_set A q4 0 u
 have x4:=h4 q4 rfl
 exact⟨hc,Y',h1.keep b (fun k _ e1 e2=>x4.2.1 (e1 ▸ e2)),h2,h3.comp b (fun k hk e=>by have:=x4.1;omega),fun q e=>(by cases e;exact x4.set u),fun q e=>(h5 q e).but b (fun e2=>h6 q4 q rfl e e2.symm),h6,fun e=>(h7 e).set x4 u⟩
theorem GfS.set5(h:GfS Y w0 F K N C t L Ms n x f r k gb sz lf bk zk b ab 2 (some q4) (some q5) v4 v5 g cp g2 cp2 A)(u:Value):GfS Y w0 F K N C t L Ms n x f r k gb sz lf bk zk b ab 2 (some q4) (some q5) v4 u g cp g2 cp2 (A.setCell ⟨q5,0,none⟩ u):=by
 obtain⟨hc,Y',h1,h2,h3,h4,h5,h6,h7⟩:=h
 have b:=but_set A q5 0 u
 have x5:=h5 q5 rfl
 exact⟨hc,Y',h1.keep b (fun k _ e1 e2=>x5.2.1 (e1 ▸ e2)),h2,h3.comp b (fun k hk e=>by have:=x5.1;omega),fun q e=>(h4 q e).but b (fun e2=>h6 q q5 e rfl e2),fun q e=>(by cases e;exact x5.set u),h6,fun e=>(h7 e).set x5 u⟩
end
def GfP (Y:Nat->Prop) (w:World) (F:Cf) (K N:Nat) (C:Nat->List Int) (t:Nat) (L:Nat->Option (List Int)) (Ms:List (Nat->Option (List Int))) (n x f r k:Nat) (sz lf bk zk:Int) (b ab:Bool) (e:Ending) (w':World):Prop :=
 ∃q4 q5 g cp g2 cp2,e=.returned (.tuple #[.func (.func 187) #[] #[.pointer (some ⟨w.heap.size,0,none⟩),.pointer (some ⟨q4,0,none⟩),.pointer (some ⟨q5,0,none⟩)],.int .i64 0])/\GfS Y (w.alloc (.cells #[.pointer (some ⟨x,0,none⟩),.int .i64 sz,.int .i64 lf,.pointer (some ⟨t,0,none⟩),.pointer (some ⟨F.st,0,none⟩),.bool b,.int .i64 (k:Int),.int .i64 bk,.int .i64 zk,.bool ab] 166)) F K N C t L Ms n x f r k w.heap.size sz lf bk zk b ab 2 (some q4) (some q5) (.slice (some ⟨g,0,none⟩) 512 cp) (.slice (some ⟨g2,0,none⟩) 512 cp2) g cp g2 cp2 w'
theorem gfree_any{sz bk:Int}{b:Bool}(h0:GfS Y (w.alloc (.cells #[.pointer (some ⟨x,0,none⟩),.int .i64 sz,.int .i64 lf,.pointer (some ⟨t,0,none⟩),.pointer (some ⟨F.st,0,none⟩),.bool b,.int .i64 (k:Int),.int .i64 bk,.int .i64 zk,.bool ab] 166)) F K N C t L Ms n x f r k w.heap.size sz lf bk zk b ab 0 none none (.slice none 0 0) (.slice none 0 0) 0 0 0 0 (w.alloc (.cells #[.pointer (some ⟨x,0,none⟩),.int .i64 sz,.int .i64 lf,.pointer (some ⟨t,0,none⟩),.pointer (some ⟨F.st,0,none⟩),.bool b,.int .i64 (k:Int),.int .i64 bk,.int .i64 zk,.bool ab] 166)).drew) :
  Calls Tryz.prog 149 #[.agg #[.pointer (some ⟨x,0,none⟩),.int .i64 sz,.int .i64 lf,.pointer (some ⟨t,0,none⟩),.pointer (some ⟨F.st,0,none⟩),.bool b,.int .i64 (k:Int),.int .i64 bk,.int .i64 zk,.bool ab]] w (GfP Y w F K N C t L Ms n x f r k sz lf bk zk b ab):=by
 obtain⟨A0,hA0⟩:∃A0,A0=(w.alloc (.cells #[.pointer (some ⟨x,0,none⟩),.int .i64 sz,.int .i64 lf,.pointer (some ⟨t,0,none⟩),.pointer (some ⟨F.st,0,none⟩),.bool b,.int .i64 (k:Int),.int .i64 bk,.int .i64 zk,.bool ab] 166)).drew:=⟨_,rfl⟩
 have kS:=h0.sc
 rw[<- hA0]at h0
 have HA0:=hid hA0
 refine poz fun PO hPO=>?_
 have HF:Hid (∀w' q4 q5,(∃g cp g2 cp2,GfS Y (w.alloc (.cells #[.pointer (some ⟨x,0,none⟩),.int .i64 sz,.int .i64 lf,.pointer (some ⟨t,0,none⟩),.pointer (some ⟨F.st,0,none⟩),.bool b,.int .i64 (k:Int),.int .i64 bk,.int .i64 zk,.bool ab] 166)) F K N C t L Ms n x f r k w.heap.size sz lf bk zk b ab 2 (some q4) (some q5) (.slice (some ⟨g,0,none⟩) 512 cp) (.slice (some ⟨g2,0,none⟩) 512 cp2) g cp g2 cp2 w')->PO (.returned (.tuple #[.func (.func 187) #[] #[.pointer (some ⟨w.heap.size,0,none⟩),.pointer (some ⟨q4,0,none⟩),.pointer (some ⟨q5,0,none⟩)],.int .i64 0])) w'):=fun w' q4 q5 q=>by
  obtain⟨g,cp,g2,cp2,q⟩:=q
  rw[hPO]
  exact⟨q4,q5,g,cp,g2,cp2,rfl,q⟩
 clear hPO hA0
 go_enter Tryz.func149,Tryz.ntmps149
 go_upto_region 1 with fail
 go_cut [4,5,6] (fun v4 v5 v6 wx=>v6=.int .i64 0/\∃q4 q5 g cp g2 cp2,v4=.pointer (some ⟨q4,0,none⟩)/\v5=.pointer (some ⟨q5,0,none⟩)/\GfS Y (w.alloc (.cells #[.pointer (some ⟨x,0,none⟩),.int .i64 sz,.int .i64 lf,.pointer (some ⟨t,0,none⟩),.pointer (some ⟨F.st,0,none⟩),.bool b,.int .i64 (k:Int),.int .i64 bk,.int .i64 zk,.bool ab] 166)) F K N C t L Ms n x f r k w.heap.size sz lf bk zk b ab 2 (some q4) (some q5) (.slice (some ⟨g,0,none⟩) 512 cp) (.slice (some ⟨g2,0,none⟩) 512 cp2) g cp g2 cp2 wx)
 case first=>
  clear HF
  refine Gz (S:=fun w'=>w'.cell? ⟨w.heap.size,0,none⟩=some (.pointer (some ⟨x,0,none⟩))/\w'.cell? ⟨w.heap.size,1,none⟩=some (.int .i64 sz)/\w'.cell? ⟨w.heap.size,2,none⟩=some (.int .i64 lf)/\w'.cell? ⟨w.heap.size,3,none⟩=some (.pointer (some ⟨t,0,none⟩))/\w'.cell? ⟨w.heap.size,4,none⟩=some (.pointer (some ⟨F.st,0,none⟩))/\w'.cell? ⟨w.heap.size,5,none⟩=some (.bool b)/\w'.cell? ⟨w.heap.size,6,none⟩=some (.int .i64 (k:Int))/\w'.cell? ⟨x,0,none⟩=some (.int .i64 (f:Int))/\w'.cell? ⟨x,1,none⟩=some (.int .i64 (r:Int))) kS (fun hSS=>?_)
  refine Ti 0 rfl ?_
  refine Ti 1 rfl ?_
  refine Ti 2 rfl ?_
  refine Ti 3 rfl ?_
  refine Ti 4 rfl ?_
  refine Ti 5 rfl ?_
  try simp only[Act.put,zA,zB,zC]
  refine Ti 6 rfl ?_
  refine Ti 7 rfl ?_
  refine Ti 8 rfl ?_
  refine Ti 9 rfl ?_
  refine Ti 10 rfl ?_
  refine Ti 11 rfl ?_
  try simp only[Act.put,zA,zB,zC]
  rw[<- HA0.out]at hSS ⊢
  clear HA0 kS
  refine wpAnyH_ready (rs:=[12,18,19]) (by kernel_rfl) (by simp) (AllReadyH.cons (o:=⟨_,_,_,_,_,_⟩) rfl (fun K9 hK9=>?_) (AllReadyH.cons (o:=⟨_,_,_,_,_,_⟩) rfl (fun K9 hK9=>?_) (AllReadyH.cons (o:=⟨_,_,_,_,_,_⟩) rfl (fun K9 hK9=>?_) AllReadyH.nil)))
  ·go_simp
   go_at_call 88
   refine Calls.mono h0.c88 ?_
   rintro e A1 ⟨rfl,h1⟩
   refine hK9.out _ _ h1.sc (fun hSS=>?_)
   try simp only[Act.put,zA,zB,zC]
   refine wpAnyH_ready (rs:=[13,18,19]) (by kernel_rfl) (by simp) (AllReadyH.cons (o:=⟨_,_,_,_,_,_⟩) rfl (fun K9 hK9=>?_) (AllReadyH.cons (o:=⟨_,_,_,_,_,_⟩) rfl (fun K9 hK9=>?_) (AllReadyH.cons (o:=⟨_,_,_,_,_,_⟩) rfl (fun K9 hK9=>?_) AllReadyH.nil)))
   ·go_simp
    go_at_call 146
    refine Calls.mono h1.c146 ?_
    rintro e A2 ⟨g,cp,g2,cp2,rfl,h2⟩
    refine hK9.out _ _ h2.sc (fun hSS=>?_)
    try simp only[Act.put,zA,zB,zC]
    refine Ti 14 rfl ?_
    try simp only[Act.put,zA,zB,zC]
    refine Ti 15 rfl ?_
    refine Ti 16 rfl ?_
    refine Ti 17 rfl ?_
    try simp only[Act.put,zA,zB,zC]
    refine Rr 18 19 rfl rfl (fun K9 hK9=>?_) (fun K9 hK9=>?_)
    ·have h3:=h2.al4
     obtain⟨A3,hA3⟩:∃A',A'=A2.alloc (.cells #[.slice none 0 0] 65):=⟨_,rfl⟩
     rw[<- hA3]at h3
     have HA3:=hid hA3
     clear hA3
     go_simp
     rw[<- HA3.out]
     refine hK9.out _ _ h3.sc (fun hSS=>?_)
     clear hK9 K9 HA3
     try simp only[Act.put,zA,zB,zC]
     refine Ri 19 rfl (fun K9 hK9=>?_)
     have h4:=h3.al5
     obtain⟨A4,hA4⟩:∃A',A'=A3.alloc (.cells #[.slice none 0 0] 65):=⟨_,rfl⟩
     rw[<- hA4]at h4
     have HA4:=hid hA4
     clear hA4
     go_simp
     rw[<- HA4.out]
     refine hK9.out _ _ h4.sc (fun hSS=>?_)
     clear hK9 K9 HA4
     try simp only[Act.put,zA,zB,zC]
     refine Ri 20 rfl (fun K9 hK9=>?_)
     obtain⟨c4,f4,c5,f5⟩:=h4.boxes
     have h5:=h4.set4 (.slice (some ⟨g,0,none⟩) 512 cp)
     obtain⟨A5,hA5⟩:∃A',A'=A4.setCell ⟨A2.heap.size,0,none⟩ (.slice (some ⟨g,0,none⟩) 512 cp):=⟨_,rfl⟩
     rw[<- hA5]at h5
     have HA5:=hid hA5
     clear hA5
     go_simp
     rw[<- HA5.out]
     refine hK9.out _ _ h5.sc (fun hSS=>?_)
     clear hK9 K9 c4 f4 c5 f5 HA5
     try simp only[Act.put,zA,zB,zC]
     refine Ri 21 rfl (fun K9 hK9=>?_)
     obtain⟨c4,f4,c5,f5⟩:=h5.boxes
     have h6:=h5.set5 (.slice (some ⟨g2,0,none⟩) 512 cp2)
     obtain⟨A6,hA6⟩:∃A',A'=A5.setCell ⟨A3.heap.size,0,none⟩ (.slice (some ⟨g2,0,none⟩) 512 cp2):=⟨_,rfl⟩
     rw[<- hA6]at h6
     have HA6:=hid hA6
     clear hA6
     go_simp
     rw[<- HA6.out]
     refine hK9.out _ _ h6.sc (fun hSS=>?_)
     clear hK9 K9 c4 f4 c5 f5 HA6
     try simp only[Act.put,zA,zB,zC]
     refine Ti 22 rfl ?_
     try simp only[Act.put,zA,zB,zC]
     refine Dn ?_
     clear hSS
     go_wp2_with fail
     go_meet
     exact⟨rfl,_,_,g,cp,g2,cp2,rfl,rfl,h6⟩
    ·have h7:=h2.al5
     obtain⟨A7,hA7⟩:∃A',A'=A2.alloc (.cells #[.slice none 0 0] 65):=⟨_,rfl⟩
     rw[<- hA7]at h7
     have HA7:=hid hA7
     clear hA7
     go_simp
     rw[<- HA7.out]
     refine hK9.out _ _ h7.sc (fun hSS=>?_)
     clear hK9 K9 HA7
     try simp only[Act.put,zA,zB,zC]
     refine Ri 18 rfl (fun K9 hK9=>?_)
     have h8:=h7.al4
     obtain⟨A8,hA8⟩:∃A',A'=A7.alloc (.cells #[.slice none 0 0] 65):=⟨_,rfl⟩
     rw[<- hA8]at h8
     have HA8:=hid hA8
     clear hA8
     go_simp
     rw[<- HA8.out]
     refine hK9.out _ _ h8.sc (fun hSS=>?_)
     clear hK9 K9 HA8
     try simp only[Act.put,zA,zB,zC]
     refine Ri 20 rfl (fun K9 hK9=>?_)
     obtain⟨c4,f4,c5,f5⟩:=h8.boxes
     have h9:=h8.set4 (.slice (some ⟨g,0,none⟩) 512 cp)
     obtain⟨A9,hA9⟩:∃A',A'=A8.setCell ⟨A7.heap.size,0,none⟩ (.slice (some ⟨g,0,none⟩) 512 cp):=⟨_,rfl⟩
     rw[<- hA9]at h9
     have HA9:=hid hA9
     clear hA9
     go_simp
     rw[<- HA9.out]
     refine hK9.out _ _ h9.sc (fun hSS=>?_)
     clear hK9 K9 c4 f4 c5 f5 HA9
     try simp only[Act.put,zA,zB,zC]
     refine Ri 21 rfl (fun K9 hK9=>?_)
     obtain⟨c4,f4,c5,f5⟩:=h9.boxes
     have h10:=h9.set5 (.slice (some ⟨g2,0,none⟩) 512 cp2)
     obtain⟨A10,hA10⟩:∃A',A'=A9.setCell ⟨A2.heap.size,0,none⟩ (.slice (some ⟨g2,0,none⟩) 512 cp2):=⟨_,rfl⟩
     rw[<- hA10]at h10
     have HA10:=hid hA10
     clear hA10
     go_simp
     rw[<- HA10.out]
     refine hK9.out _ _ h10.sc (fun hSS=>?_)
     clear hK9 K9 c4 f4 c5 f5 HA10
     try simp only[Act.put,zA,zB,zC]
     refine Ti 22 rfl ?_
     try simp only[Act.put,zA,zB,zC]
     refine Dn ?_
     clear hSS
     go_wp2_with fail
     go_meet
     exact⟨rfl,_,_,g,cp,g2,cp2,rfl,rfl,h10⟩
   ·have h11:=h1.al4
    obtain⟨A11,hA11⟩:∃A',A'=A1.alloc (.cells #[.slice none 0 0] 65):=⟨_,rfl⟩
    rw[<- hA11]at h11
    have HA11:=hid hA11
    clear hA11
    go_simp
    rw[<- HA11.out]
    refine hK9.out _ _ h11.sc (fun hSS=>?_)
    clear hK9 K9 HA11
    try simp only[Act.put,zA,zB,zC]
    refine Rr 13 19 rfl rfl (fun K9 hK9=>?_) (fun K9 hK9=>?_)
    ·go_simp
     go_at_call 146
     refine Calls.mono h11.c146 ?_
     rintro e A12 ⟨g,cp,g2,cp2,rfl,h12⟩
     refine hK9.out _ _ h12.sc (fun hSS=>?_)
     try simp only[Act.put,zA,zB,zC]
     refine Ti 14 rfl ?_
     refine Ti 15 rfl ?_
     refine Ti 16 rfl ?_
     refine Ti 17 rfl ?_
     try simp only[Act.put,zA,zB,zC]
     refine Ri 19 rfl (fun K9 hK9=>?_)
     have h13:=h12.al5
     obtain⟨A13,hA13⟩:∃A',A'=A12.alloc (.cells #[.slice none 0 0] 65):=⟨_,rfl⟩
     rw[<- hA13]at h13
     have HA13:=hid hA13
     clear hA13
     go_simp
     rw[<- HA13.out]
     refine hK9.out _ _ h13.sc (fun hSS=>?_)
     clear hK9 K9 HA13
     try simp only[Act.put,zA,zB,zC]
     refine Ri 20 rfl (fun K9 hK9=>?_)
     obtain⟨c4,f4,c5,f5⟩:=h13.boxes
     have h14:=h13.set4 (.slice (some ⟨g,0,none⟩) 512 cp)
     obtain⟨A14,hA14⟩:∃A',A'=A13.setCell ⟨A1.heap.size,0,none⟩ (.slice (some ⟨g,0,none⟩) 512 cp):=⟨_,rfl⟩
     rw[<- hA14]at h14
     have HA14:=hid hA14
     clear hA14
     go_simp
     rw[<- HA14.out]
     refine hK9.out _ _ h14.sc (fun hSS=>?_)
     clear hK9 K9 c4 f4 c5 f5 HA14
     try simp only[Act.put,zA,zB,zC]
     refine Ri 21 rfl (fun K9 hK9=>?_)
     obtain⟨c4,f4,c5,f5⟩:=h14.boxes
     have h15:=h14.set5 (.slice (some ⟨g2,0,none⟩) 512 cp2)
     obtain⟨A15,hA15⟩:∃A',A'=A14.setCell ⟨A12.heap.size,0,none⟩ (.slice (some ⟨g2,0,none⟩) 512 cp2):=⟨_,rfl⟩
     rw[<- hA15]at h15
     have HA15:=hid hA15
     clear hA15
     go_simp
     rw[<- HA15.out]
     refine hK9.out _ _ h15.sc (fun hSS=>?_)
     clear hK9 K9 c4 f4 c5 f5 HA15
     try simp only[Act.put,zA,zB,zC]
     refine Ti 22 rfl ?_
     try simp only[Act.put,zA,zB,zC]
     refine Dn ?_
     clear hSS
     go_wp2_with fail
     go_meet
     exact⟨rfl,_,_,g,cp,g2,cp2,rfl,rfl,h15⟩
    ·have h16:=h11.al5
     obtain⟨A16,hA16⟩:∃A',A'=A11.alloc (.cells #[.slice none 0 0] 65):=⟨_,rfl⟩
     rw[<- hA16]at h16
     have HA16:=hid hA16
     clear hA16
     go_simp
     rw[<- HA16.out]
     refine hK9.out _ _ h16.sc (fun hSS=>?_)
     clear hK9 K9 HA16
     try simp only[Act.put,zA,zB,zC]
     refine Ri 13 rfl (fun K9 hK9=>?_)
     go_simp
     go_at_call 146
     refine Calls.mono h16.c146 ?_
     rintro e A17 ⟨g,cp,g2,cp2,rfl,h17⟩
     refine hK9.out _ _ h17.sc (fun hSS=>?_)
     try simp only[Act.put,zA,zB,zC]
     refine Ti 14 rfl ?_
     try simp only[Act.put,zA,zB,zC]
     refine Ti 15 rfl ?_
     refine Ti 16 rfl ?_
     refine Ti 17 rfl ?_
     try simp only[Act.put,zA,zB,zC]
     refine Ri 20 rfl (fun K9 hK9=>?_)
     obtain⟨c4,f4,c5,f5⟩:=h17.boxes
     have h18:=h17.set4 (.slice (some ⟨g,0,none⟩) 512 cp)
     obtain⟨A18,hA18⟩:∃A',A'=A17.setCell ⟨A1.heap.size,0,none⟩ (.slice (some ⟨g,0,none⟩) 512 cp):=⟨_,rfl⟩
     rw[<- hA18]at h18
     have HA18:=hid hA18
     clear hA18
     go_simp
     rw[<- HA18.out]
     refine hK9.out _ _ h18.sc (fun hSS=>?_)
     clear hK9 K9 c4 f4 c5 f5 HA18
     try simp only[Act.put,zA,zB,zC]
     refine Ri 21 rfl (fun K9 hK9=>?_)
     obtain⟨c4,f4,c5,f5⟩:=h18.boxes
     have h19:=h18.set5 (.slice (some ⟨g2,0,none⟩) 512 cp2)
     obtain⟨A19,hA19⟩:∃A',A'=A18.setCell ⟨A11.heap.size,0,none⟩ (.slice (some ⟨g2,0,none⟩) 512 cp2):=⟨_,rfl⟩
     rw[<- hA19]at h19
     have HA19:=hid hA19
     clear hA19
     go_simp
     rw[<- HA19.out]
     refine hK9.out _ _ h19.sc (fun hSS=>?_)
     clear hK9 K9 c4 f4 c5 f5 HA19
     try simp only[Act.put,zA,zB,zC]
     refine Ti 22 rfl ?_
     try simp only[Act.put,zA,zB,zC]
     refine Dn ?_
     clear hSS
     go_wp2_with fail
     go_meet
     exact⟨rfl,_,_,g,cp,g2,cp2,rfl,rfl,h19⟩
   ·have h20:=h1.al5
    obtain⟨A20,hA20⟩:∃A',A'=A1.alloc (.cells #[.slice none 0 0] 65):=⟨_,rfl⟩
    rw[<- hA20]at h20
    have HA20:=hid hA20
    clear hA20
    go_simp
    rw[<- HA20.out]
    refine hK9.out _ _ h20.sc (fun hSS=>?_)
    clear hK9 K9 HA20
    try simp only[Act.put,zA,zB,zC]
    refine Rr 13 18 rfl rfl (fun K9 hK9=>?_) (fun K9 hK9=>?_)
    ·go_simp
     go_at_call 146
     refine Calls.mono h20.c146 ?_
     rintro e A21 ⟨g,cp,g2,cp2,rfl,h21⟩
     refine hK9.out _ _ h21.sc (fun hSS=>?_)
     try simp only[Act.put,zA,zB,zC]
     refine Ti 14 rfl ?_
     refine Ti 15 rfl ?_
     refine Ti 16 rfl ?_
     refine Ti 17 rfl ?_
     try simp only[Act.put,zA,zB,zC]
     refine Ri 18 rfl (fun K9 hK9=>?_)
     have h22:=h21.al4
     obtain⟨A22,hA22⟩:∃A',A'=A21.alloc (.cells #[.slice none 0 0] 65):=⟨_,rfl⟩
     rw[<- hA22]at h22
     have HA22:=hid hA22
     clear hA22
     go_simp
     rw[<- HA22.out]
     refine hK9.out _ _ h22.sc (fun hSS=>?_)
     clear hK9 K9 HA22
     try simp only[Act.put,zA,zB,zC]
     refine Ri 20 rfl (fun K9 hK9=>?_)
     obtain⟨c4,f4,c5,f5⟩:=h22.boxes
     have h23:=h22.set4 (.slice (some ⟨g,0,none⟩) 512 cp)
     obtain⟨A23,hA23⟩:∃A',A'=A22.setCell ⟨A21.heap.size,0,none⟩ (.slice (some ⟨g,0,none⟩) 512 cp):=⟨_,rfl⟩
     rw[<- hA23]at h23
     have HA23:=hid hA23
     clear hA23
     go_simp
     rw[<- HA23.out]
     refine hK9.out _ _ h23.sc (fun hSS=>?_)
     clear hK9 K9 c4 f4 c5 f5 HA23
     try simp only[Act.put,zA,zB,zC]
     refine Ri 21 rfl (fun K9 hK9=>?_)
     obtain⟨c4,f4,c5,f5⟩:=h23.boxes
     have h24:=h23.set5 (.slice (some ⟨g2,0,none⟩) 512 cp2)
     obtain⟨A24,hA24⟩:∃A',A'=A23.setCell ⟨A1.heap.size,0,none⟩ (.slice (some ⟨g2,0,none⟩) 512 cp2):=⟨_,rfl⟩
     rw[<- hA24]at h24
     have HA24:=hid hA24
     clear hA24
     go_simp
     rw[<- HA24.out]
     refine hK9.out _ _ h24.sc (fun hSS=>?_)
     clear hK9 K9 c4 f4 c5 f5 HA24
     try simp only[Act.put,zA,zB,zC]
     refine Ti 22 rfl ?_
     try simp only[Act.put,zA,zB,zC]
     refine Dn ?_
     clear hSS
     go_wp2_with fail
     go_meet
     exact⟨rfl,_,_,g,cp,g2,cp2,rfl,rfl,h24⟩
    ·have h25:=h20.al4
     obtain⟨A25,hA25⟩:∃A',A'=A20.alloc (.cells #[.slice none 0 0] 65):=⟨_,rfl⟩
     rw[<- hA25]at h25
     have HA25:=hid hA25
     clear hA25
     go_simp
     rw[<- HA25.out]
     refine hK9.out _ _ h25.sc (fun hSS=>?_)
     clear hK9 K9 HA25
     try simp only[Act.put,zA,zB,zC]
     refine Ri 13 rfl (fun K9 hK9=>?_)
     go_simp
     go_at_call 146
     refine Calls.mono h25.c146 ?_
     rintro e A26 ⟨g,cp,g2,cp2,rfl,h26⟩
     refine hK9.out _ _ h26.sc (fun hSS=>?_)
     try simp only[Act.put,zA,zB,zC]
     refine Ti 14 rfl ?_
     try simp only[Act.put,zA,zB,zC]
     refine Ti 15 rfl ?_
     refine Ti 16 rfl ?_
     refine Ti 17 rfl ?_
     try simp only[Act.put,zA,zB,zC]
     refine Ri 20 rfl (fun K9 hK9=>?_)
     obtain⟨c4,f4,c5,f5⟩:=h26.boxes
     have h27:=h26.set4 (.slice (some ⟨g,0,none⟩) 512 cp)
     obtain⟨A27,hA27⟩:∃A',A'=A26.setCell ⟨A20.heap.size,0,none⟩ (.slice (some ⟨g,0,none⟩) 512 cp):=⟨_,rfl⟩
     rw[<- hA27]at h27
     have HA27:=hid hA27
     clear hA27
     go_simp
     rw[<- HA27.out]
     refine hK9.out _ _ h27.sc (fun hSS=>?_)
     clear hK9 K9 c4 f4 c5 f5 HA27
     try simp only[Act.put,zA,zB,zC]
     refine Ri 21 rfl (fun K9 hK9=>?_)
     obtain⟨c4,f4,c5,f5⟩:=h27.boxes
     have h28:=h27.set5 (.slice (some ⟨g2,0,none⟩) 512 cp2)
     obtain⟨A28,hA28⟩:∃A',A'=A27.setCell ⟨A1.heap.size,0,none⟩ (.slice (some ⟨g2,0,none⟩) 512 cp2):=⟨_,rfl⟩
     rw[<- hA28]at h28
     have HA28:=hid hA28
     clear hA28
     go_simp
     rw[<- HA28.out]
     refine hK9.out _ _ h28.sc (fun hSS=>?_)
     clear hK9 K9 c4 f4 c5 f5 HA28
     try simp only[Act.put,zA,zB,zC]
     refine Ti 22 rfl ?_
     try simp only[Act.put,zA,zB,zC]
     refine Dn ?_
     clear hSS
     go_wp2_with fail
     go_meet
     exact⟨rfl,_,_,g,cp,g2,cp2,rfl,rfl,h28⟩
  ·have h29:=h0.al4
   obtain⟨A29,hA29⟩:∃A',A'=A0.alloc (.cells #[.slice none 0 0] 65):=⟨_,rfl⟩
   rw[<- hA29]at h29
   have HA29:=hid hA29
   clear hA29
   go_simp
   rw[<- HA29.out]
   refine hK9.out _ _ h29.sc (fun hSS=>?_)
   clear hK9 K9 HA29
   try simp only[Act.put,zA,zB,zC]
   refine Rr 12 19 rfl rfl (fun K9 hK9=>?_) (fun K9 hK9=>?_)
   ·go_simp
    go_at_call 88
    refine Calls.mono h29.c88 ?_
    rintro e A30 ⟨rfl,h30⟩
    refine hK9.out _ _ h30.sc (fun hSS=>?_)
    try simp only[Act.put,zA,zB,zC]
    refine Rr 13 19 rfl rfl (fun K9 hK9=>?_) (fun K9 hK9=>?_)
    ·go_simp
     go_at_call 146
     refine Calls.mono h30.c146 ?_
     rintro e A31 ⟨g,cp,g2,cp2,rfl,h31⟩
     refine hK9.out _ _ h31.sc (fun hSS=>?_)
     try simp only[Act.put,zA,zB,zC]
     refine Ti 14 rfl ?_
     refine Ti 15 rfl ?_
     refine Ti 16 rfl ?_
     refine Ti 17 rfl ?_
     try simp only[Act.put,zA,zB,zC]
     refine Ri 19 rfl (fun K9 hK9=>?_)
     have h32:=h31.al5
     obtain⟨A32,hA32⟩:∃A',A'=A31.alloc (.cells #[.slice none 0 0] 65):=⟨_,rfl⟩
     rw[<- hA32]at h32
     have HA32:=hid hA32
     clear hA32
     go_simp
     rw[<- HA32.out]
     refine hK9.out _ _ h32.sc (fun hSS=>?_)
     clear hK9 K9 HA32
     try simp only[Act.put,zA,zB,zC]
     refine Ri 20 rfl (fun K9 hK9=>?_)
     obtain⟨c4,f4,c5,f5⟩:=h32.boxes
     have h33:=h32.set4 (.slice (some ⟨g,0,none⟩) 512 cp)
     obtain⟨A33,hA33⟩:∃A',A'=A32.setCell ⟨A0.heap.size,0,none⟩ (.slice (some ⟨g,0,none⟩) 512 cp):=⟨_,rfl⟩
     rw[<- hA33]at h33
     have HA33:=hid hA33
     clear hA33
     go_simp
     rw[<- HA33.out]
     refine hK9.out _ _ h33.sc (fun hSS=>?_)
     clear hK9 K9 c4 f4 c5 f5 HA33
     try simp only[Act.put,zA,zB,zC]
     refine Ri 21 rfl (fun K9 hK9=>?_)
     obtain⟨c4,f4,c5,f5⟩:=h33.boxes
     have h34:=h33.set5 (.slice (some ⟨g2,0,none⟩) 512 cp2)
     obtain⟨A34,hA34⟩:∃A',A'=A33.setCell ⟨A31.heap.size,0,none⟩ (.slice (some ⟨g2,0,none⟩) 512 cp2):=⟨_,rfl⟩
     rw[<- hA34]at h34
     have HA34:=hid hA34
     clear hA34
     go_simp
     rw[<- HA34.out]
     refine hK9.out _ _ h34.sc (fun hSS=>?_)
     clear hK9 K9 c4 f4 c5 f5 HA34
     try simp only[Act.put,zA,zB,zC]
     refine Ti 22 rfl ?_
     try simp only[Act.put,zA,zB,zC]
     refine Dn ?_
     clear hSS
     go_wp2_with fail
     go_meet
     exact⟨rfl,_,_,g,cp,g2,cp2,rfl,rfl,h34⟩
    ·have h35:=h30.al5
     obtain⟨A35,hA35⟩:∃A',A'=A30.alloc (.cells #[.slice none 0 0] 65):=⟨_,rfl⟩
     rw[<- hA35]at h35
     have HA35:=hid hA35
     clear hA35
     go_simp
     rw[<- HA35.out]
     refine hK9.out _ _ h35.sc (fun hSS=>?_)
     clear hK9 K9 HA35
     try simp only[Act.put,zA,zB,zC]
     refine Ri 13 rfl (fun K9 hK9=>?_)
     go_simp
     go_at_call 146
     refine Calls.mono h35.c146 ?_
     rintro e A36 ⟨g,cp,g2,cp2,rfl,h36⟩
     refine hK9.out _ _ h36.sc (fun hSS=>?_)
     try simp only[Act.put,zA,zB,zC]
     refine Ti 14 rfl ?_
     try simp only[Act.put,zA,zB,zC]
     refine Ti 15 rfl ?_
     refine Ti 16 rfl ?_
     refine Ti 17 rfl ?_
     try simp only[Act.put,zA,zB,zC]
     refine Ri 20 rfl (fun K9 hK9=>?_)
     obtain⟨c4,f4,c5,f5⟩:=h36.boxes
     have h37:=h36.set4 (.slice (some ⟨g,0,none⟩) 512 cp)
     obtain⟨A37,hA37⟩:∃A',A'=A36.setCell ⟨A0.heap.size,0,none⟩ (.slice (some ⟨g,0,none⟩) 512 cp):=⟨_,rfl⟩
     rw[<- hA37]at h37
     have HA37:=hid hA37
     clear hA37
     go_simp
     rw[<- HA37.out]
     refine hK9.out _ _ h37.sc (fun hSS=>?_)
     clear hK9 K9 c4 f4 c5 f5 HA37
     try simp only[Act.put,zA,zB,zC]
     refine Ri 21 rfl (fun K9 hK9=>?_)
     obtain⟨c4,f4,c5,f5⟩:=h37.boxes
     have h38:=h37.set5 (.slice (some ⟨g2,0,none⟩) 512 cp2)
     obtain⟨A38,hA38⟩:∃A',A'=A37.setCell ⟨A30.heap.size,0,none⟩ (.slice (some ⟨g2,0,none⟩) 512 cp2):=⟨_,rfl⟩
     rw[<- hA38]at h38
     have HA38:=hid hA38
     clear hA38
     go_simp
     rw[<- HA38.out]
     refine hK9.out _ _ h38.sc (fun hSS=>?_)
     clear hK9 K9 c4 f4 c5 f5 HA38
     try simp only[Act.put,zA,zB,zC]
     refine Ti 22 rfl ?_
     try simp only[Act.put,zA,zB,zC]
     refine Dn ?_
     clear hSS
     go_wp2_with fail
     go_meet
     exact⟨rfl,_,_,g,cp,g2,cp2,rfl,rfl,h38⟩
   ·have h39:=h29.al5
    obtain⟨A39,hA39⟩:∃A',A'=A29.alloc (.cells #[.slice none 0 0] 65):=⟨_,rfl⟩
    rw[<- hA39]at h39
    have HA39:=hid hA39
    clear hA39
    go_simp
    rw[<- HA39.out]
    refine hK9.out _ _ h39.sc (fun hSS=>?_)
    clear hK9 K9 HA39
    try simp only[Act.put,zA,zB,zC]
    refine Ri 12 rfl (fun K9 hK9=>?_)
    go_simp
    go_at_call 88
    refine Calls.mono h39.c88 ?_
    rintro e A40 ⟨rfl,h40⟩
    refine hK9.out _ _ h40.sc (fun hSS=>?_)
    try simp only[Act.put,zA,zB,zC]
    refine Ri 13 rfl (fun K9 hK9=>?_)
    go_simp
    go_at_call 146
    refine Calls.mono h40.c146 ?_
    rintro e A41 ⟨g,cp,g2,cp2,rfl,h41⟩
    refine hK9.out _ _ h41.sc (fun hSS=>?_)
    try simp only[Act.put,zA,zB,zC]
    refine Ti 14 rfl ?_
    refine Ti 15 rfl ?_
    refine Ti 16 rfl ?_
    refine Ti 17 rfl ?_
    try simp only[Act.put,zA,zB,zC]
    refine Ri 20 rfl (fun K9 hK9=>?_)
    obtain⟨c4,f4,c5,f5⟩:=h41.boxes
    have h42:=h41.set4 (.slice (some ⟨g,0,none⟩) 512 cp)
    obtain⟨A42,hA42⟩:∃A',A'=A41.setCell ⟨A0.heap.size,0,none⟩ (.slice (some ⟨g,0,none⟩) 512 cp):=⟨_,rfl⟩
    rw[<- hA42]at h42
    have HA42:=hid hA42
    clear hA42
    go_simp
    rw[<- HA42.out]
    refine hK9.out _ _ h42.sc (fun hSS=>?_)
    clear hK9 K9 c4 f4 c5 f5 HA42
    try simp only[Act.put,zA,zB,zC]
    refine Ri 21 rfl (fun K9 hK9=>?_)
    obtain⟨c4,f4,c5,f5⟩:=h42.boxes
    have h43:=h42.set5 (.slice (some ⟨g2,0,none⟩) 512 cp2)
    obtain⟨A43,hA43⟩:∃A',A'=A42.setCell ⟨A29.heap.size,0,none⟩ (.slice (some ⟨g2,0,none⟩) 512 cp2):=⟨_,rfl⟩
    rw[<- hA43]at h43
    have HA43:=hid hA43
    clear hA43
    go_simp
    rw[<- HA43.out]
    refine hK9.out _ _ h43.sc (fun hSS=>?_)
    clear hK9 K9 c4 f4 c5 f5 HA43
    try simp only[Act.put,zA,zB,zC]
    refine Ti 22 rfl ?_
    try simp only[Act.put,zA,zB,zC]
    refine Dn ?_
    clear hSS
    go_wp2_with fail
    go_meet
    exact⟨rfl,_,_,g,cp,g2,cp2,rfl,rfl,h43⟩
  ·have h44:=h0.al5
   obtain⟨A44,hA44⟩:∃A',A'=A0.alloc (.cells #[.slice none 0 0] 65):=⟨_,rfl⟩
   rw[<- hA44]at h44
   have HA44:=hid hA44
   clear hA44
   go_simp
   rw[<- HA44.out]
   refine hK9.out _ _ h44.sc (fun hSS=>?_)
   clear hK9 K9 HA44
   try simp only[Act.put,zA,zB,zC]
   refine Rr 12 18 rfl rfl (fun K9 hK9=>?_) (fun K9 hK9=>?_)
   ·go_simp
    go_at_call 88
    refine Calls.mono h44.c88 ?_
    rintro e A45 ⟨rfl,h45⟩
    refine hK9.out _ _ h45.sc (fun hSS=>?_)
    try simp only[Act.put,zA,zB,zC]
    refine Rr 13 18 rfl rfl (fun K9 hK9=>?_) (fun K9 hK9=>?_)
    ·go_simp
     go_at_call 146
     refine Calls.mono h45.c146 ?_
     rintro e A46 ⟨g,cp,g2,cp2,rfl,h46⟩
     refine hK9.out _ _ h46.sc (fun hSS=>?_)
     try simp only[Act.put,zA,zB,zC]
     refine Ti 14 rfl ?_
     try simp only[Act.put,zA,zB,zC]
     refine Ti 15 rfl ?_
     refine Ti 16 rfl ?_
     refine Ti 17 rfl ?_
     try simp only[Act.put,zA,zB,zC]
     refine Ri 18 rfl (fun K9 hK9=>?_)
     have h47:=h46.al4
     obtain⟨A47,hA47⟩:∃A',A'=A46.alloc (.cells #[.slice none 0 0] 65):=⟨_,rfl⟩
     rw[<- hA47]at h47
     have HA47:=hid hA47
     clear hA47
     go_simp
     rw[<- HA47.out]
     refine hK9.out _ _ h47.sc (fun hSS=>?_)
     clear hK9 K9 HA47
     try simp only[Act.put,zA,zB,zC]
     refine Ri 20 rfl (fun K9 hK9=>?_)
     obtain⟨c4,f4,c5,f5⟩:=h47.boxes
     have h48:=h47.set4 (.slice (some ⟨g,0,none⟩) 512 cp)
     obtain⟨A48,hA48⟩:∃A',A'=A47.setCell ⟨A46.heap.size,0,none⟩ (.slice (some ⟨g,0,none⟩) 512 cp):=⟨_,rfl⟩
     rw[<- hA48]at h48
     have HA48:=hid hA48
     clear hA48
     go_simp
     rw[<- HA48.out]
     refine hK9.out _ _ h48.sc (fun hSS=>?_)
     clear hK9 K9 c4 f4 c5 f5 HA48
     try simp only[Act.put,zA,zB,zC]
     refine Ri 21 rfl (fun K9 hK9=>?_)
     obtain⟨c4,f4,c5,f5⟩:=h48.boxes
     have h49:=h48.set5 (.slice (some ⟨g2,0,none⟩) 512 cp2)
     obtain⟨A49,hA49⟩:∃A',A'=A48.setCell ⟨A0.heap.size,0,none⟩ (.slice (some ⟨g2,0,none⟩) 512 cp2):=⟨_,rfl⟩
     rw[<- hA49]at h49
     have HA49:=hid hA49
     clear hA49
     go_simp
     rw[<- HA49.out]
     refine hK9.out _ _ h49.sc (fun hSS=>?_)
     clear hK9 K9 c4 f4 c5 f5 HA49
     try simp only[Act.put,zA,zB,zC]
     refine Ti 22 rfl ?_
     try simp only[Act.put,zA,zB,zC]
     refine Dn ?_
     clear hSS
     go_wp2_with fail
     go_meet
     exact⟨rfl,_,_,g,cp,g2,cp2,rfl,rfl,h49⟩
    ·have h50:=h45.al4
     obtain⟨A50,hA50⟩:∃A',A'=A45.alloc (.cells #[.slice none 0 0] 65):=⟨_,rfl⟩
     rw[<- hA50]at h50
     have HA50:=hid hA50
     clear hA50
     go_simp
     rw[<- HA50.out]
     refine hK9.out _ _ h50.sc (fun hSS=>?_)
     clear hK9 K9 HA50
     try simp only[Act.put,zA,zB,zC]
     refine Ri 13 rfl (fun K9 hK9=>?_)
     go_simp
     go_at_call 146
     refine Calls.mono h50.c146 ?_
     rintro e A51 ⟨g,cp,g2,cp2,rfl,h51⟩
     refine hK9.out _ _ h51.sc (fun hSS=>?_)
     try simp only[Act.put,zA,zB,zC]
     refine Ti 14 rfl ?_
     refine Ti 15 rfl ?_
     refine Ti 16 rfl ?_
     refine Ti 17 rfl ?_
     try simp only[Act.put,zA,zB,zC]
     refine Ri 20 rfl (fun K9 hK9=>?_)
     obtain⟨c4,f4,c5,f5⟩:=h51.boxes
     have h52:=h51.set4 (.slice (some ⟨g,0,none⟩) 512 cp)
     obtain⟨A52,hA52⟩:∃A',A'=A51.setCell ⟨A45.heap.size,0,none⟩ (.slice (some ⟨g,0,none⟩) 512 cp):=⟨_,rfl⟩
     rw[<- hA52]at h52
     have HA52:=hid hA52
     clear hA52
     go_simp
     rw[<- HA52.out]
     refine hK9.out _ _ h52.sc (fun hSS=>?_)
     clear hK9 K9 c4 f4 c5 f5 HA52
     try simp only[Act.put,zA,zB,zC]
     refine Ri 21 rfl (fun K9 hK9=>?_)
     obtain⟨c4,f4,c5,f5⟩:=h52.boxes
     have h53:=h52.set5 (.slice (some ⟨g2,0,none⟩) 512 cp2)
     obtain⟨A53,hA53⟩:∃A',A'=A52.setCell ⟨A0.heap.size,0,none⟩ (.slice (some ⟨g2,0,none⟩) 512 cp2):=⟨_,rfl⟩
     rw[<- hA53]at h53
     have HA53:=hid hA53
     clear hA53
     go_simp
     rw[<- HA53.out]
     refine hK9.out _ _ h53.sc (fun hSS=>?_)
     clear hK9 K9 c4 f4 c5 f5 HA53
     try simp only[Act.put,zA,zB,zC]
     refine Ti 22 rfl ?_
     try simp only[Act.put,zA,zB,zC]
     refine Dn ?_
     clear hSS
     go_wp2_with fail
     go_meet
     exact⟨rfl,_,_,g,cp,g2,cp2,rfl,rfl,h53⟩
   ·have h54:=h44.al4
    obtain⟨A54,hA54⟩:∃A',A'=A44.alloc (.cells #[.slice none 0 0] 65):=⟨_,rfl⟩
    rw[<- hA54]at h54
    have HA54:=hid hA54
    clear hA54
    go_simp
    rw[<- HA54.out]
    refine hK9.out _ _ h54.sc (fun hSS=>?_)
    clear hK9 K9 HA54
    try simp only[Act.put,zA,zB,zC]
    refine Ri 12 rfl (fun K9 hK9=>?_)
    go_simp
    go_at_call 88
    refine Calls.mono h54.c88 ?_
    rintro e A55 ⟨rfl,h55⟩
    refine hK9.out _ _ h55.sc (fun hSS=>?_)
    try simp only[Act.put,zA,zB,zC]
    refine Ri 13 rfl (fun K9 hK9=>?_)
    go_simp
    go_at_call 146
    refine Calls.mono h55.c146 ?_
    rintro e A56 ⟨g,cp,g2,cp2,rfl,h56⟩
    refine hK9.out _ _ h56.sc (fun hSS=>?_)
    try simp only[Act.put,zA,zB,zC]
    refine Ti 14 rfl ?_
    try simp only[Act.put,zA,zB,zC]
    refine Ti 15 rfl ?_
    refine Ti 16 rfl ?_
    refine Ti 17 rfl ?_
    try simp only[Act.put,zA,zB,zC]
    refine Ri 20 rfl (fun K9 hK9=>?_)
    obtain⟨c4,f4,c5,f5⟩:=h56.boxes
    have h57:=h56.set4 (.slice (some ⟨g,0,none⟩) 512 cp)
    obtain⟨A57,hA57⟩:∃A',A'=A56.setCell ⟨A44.heap.size,0,none⟩ (.slice (some ⟨g,0,none⟩) 512 cp):=⟨_,rfl⟩
    rw[<- hA57]at h57
    have HA57:=hid hA57
    clear hA57
    go_simp
    rw[<- HA57.out]
    refine hK9.out _ _ h57.sc (fun hSS=>?_)
    clear hK9 K9 c4 f4 c5 f5 HA57
    try simp only[Act.put,zA,zB,zC]
    refine Ri 21 rfl (fun K9 hK9=>?_)
    obtain⟨c4,f4,c5,f5⟩:=h57.boxes
    have h58:=h57.set5 (.slice (some ⟨g2,0,none⟩) 512 cp2)
    obtain⟨A58,hA58⟩:∃A',A'=A57.setCell ⟨A0.heap.size,0,none⟩ (.slice (some ⟨g2,0,none⟩) 512 cp2):=⟨_,rfl⟩
    rw[<- hA58]at h58
    have HA58:=hid hA58
    clear hA58
    go_simp
    rw[<- HA58.out]
    refine hK9.out _ _ h58.sc (fun hSS=>?_)
    clear hK9 K9 c4 f4 c5 f5 HA58
    try simp only[Act.put,zA,zB,zC]
    refine Ti 22 rfl ?_
    try simp only[Act.put,zA,zB,zC]
    refine Dn ?_
    clear hSS
    go_wp2_with fail
    go_meet
    exact⟨rfl,_,_,g,cp,g2,cp2,rfl,rfl,h58⟩
 case rest=>
  obtain⟨rfl,q4,q5,g,cp,g2,cp2,rfl,rfl,q⟩:=hcut
  have FIN:=hid (HF.out _ q4 q5 ⟨g,cp,g2,cp2,q⟩)
  clear q HF HA0 kS h0
  go_wp2
  exact FIN.out
end Go.Proofs.YtlefjidbpjkhlaaGreat
