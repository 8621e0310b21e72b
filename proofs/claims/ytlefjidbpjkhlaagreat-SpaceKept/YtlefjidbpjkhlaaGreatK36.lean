import Derived.Test.YtlefjidbpjkhlaaGreatK35
set_option maxRecDepth 100000
set_option maxHeartbeats 16000000
namespace Go.Proofs.YtlefjidbpjkhlaaGreat
variable {X Y:Nat->Prop}
variable {A A' w w' w0:World}
variable {F:Cf}
variable {B0 K N cp f k n nk r t x:Nat}
variable {C:Nat->List Int}
variable {L:Nat->Option (List Int)}
variable {Ms:List (Nat->Option (List Int))}
variable {lf zk:Int}
variable {ab:Bool}
open Go.RowKit Go.Deep Go.Shelf
attribute [local go_sem] Oper.semAt_some
def fre (z1 z2:List Int) (i:Nat):Bool:=(z1.getD (32+i) 0 == 0) && (z2.getD (32+i) 0 == 0)
def frl (z1 z2:List Int) (m:Nat):List Nat:=(List.range m).filter (fre z1 z2)
theorem frl_succ(z1 z2:List Int)(m:Nat):frl z1 z2 (m+1)=frl z1 z2 m++(if fre z1 z2 m then [m] else []):=by
 unfold frl
 rw[List.range_succ,List.filter_append]
 congr 1
 simp only[List.filter_cons,List.filter_nil]
theorem frl_len(z1 z2:List Int)(m:Nat):(frl z1 z2 m).length<=m:=by
 unfold frl
 exact Nat.le_trans (List.length_filter_le _ _) (by simp)
structure FrV (gb q4 q5 k nk g cp g2 cp2:Nat) (z1 z2:List Int) (W:World):Prop where
 c6:W.cell? ⟨gb,6,none⟩=some (.int .i64 (k:Int))
 c7:W.cell? ⟨gb,7,none⟩=some (.int .i64 (nk:Int))
 b4:W.cell? ⟨q4,0,none⟩=some (.slice (some ⟨g,0,none⟩) 512 cp)
 b5:W.cell? ⟨q5,0,none⟩=some (.slice (some ⟨g2,0,none⟩) 512 cp2)
 o1:∀i,i<512->W.cell? ⟨g,i,none⟩=some (.int .u8 (z1.getD i 0))
 o2:∀i,i<512->W.cell? ⟨g2,i,none⟩=some (.int .u8 (z2.getD i 0))
theorem free1_it(n:Nat)(hn:1<=n)(gb q4 q5 k nk g cp g2 cp2:Nat)(z1 z2:List Int)(hk:k<=1000)(hnk:nk<=480)(B:Nat)(I:List Nat->World->Prop)(Ix:Code->List Nat->World->Prop)(w:World)(hV:∀pre W,I pre W->FrV gb q4 q5 k nk g cp g2 cp2 z1 z2 W) :
  RfIt Fence.wide n Tryz.prog 187 #[.pointer (some ⟨gb,0,none⟩),.pointer (some ⟨q4,0,none⟩),.pointer (some ⟨q5,0,none⟩)] B 480 (fun i:Nat=>#[.int .i64 ((480 * k+i+1:Nat):Int)]) (fun xs=>xs=frl z1 z2 nk) (fun pre=>∃m,m<nk/\pre=frl z1 z2 (m+1)) I Ix w:=by
 intro R Rx W hR hRx hRl hRxl hY h0 hr0 hb
 have HV:=hid hV
 have HY:=hid hY
 clear hV hY hR hRx hRl hRxl hb
 refine callsIn_of_wp Tryz.func187 rfl trivial ?_ rfl
 simp only[Tryz.ntmps187,List.size_toArray,List.length_cons,List.length_nil,Nat.reduceAdd,Nat.reduceSub,Array.replicate_succ,Array.replicate_zero,List.push_toArray,List.append_toArray,List.nil_append,List.cons_append]
 have v0:=HV.out [] W h0
 have k7:=v0.c7
 clear v0
 gi_wp2
 gi_loopw [9] (fun iv wr=>∃m:Nat,m<=nk/\iv=.int .i64 (m:Int)/\I (frl z1 z2 m) wr/\R wr) (fun iv _=>nk-(intOf iv).toNat)
 case atStart=>exact⟨0,Nat.zero_le _,rfl,h0,hr0⟩
 case round=>
  clear h0 hr0 k7
  obtain⟨m,hm,rfl,hI,hRr⟩:=hrel
  by_cases hmn:m<nk
  ·have hmn':(m:Int)<(nk:Int):=by omega
   have v:=HV.out _ _ hI
   have k6:=v.c6
   have c4:=v.b4
   have c5:=v.b5
   have d1:=v.o1 (32+m) (by omega)
   have d2:=v.o2 (32+m) (by omega)
   have hfs:=frl_succ z1 z2 m
   have hfl:=frl_len z1 z2 m
   clear v
   by_cases e1:z1.getD (32+m) 0=0
   ·rw[e1]at d1
    by_cases e2:z2.getD (32+m) 0=0
    ·rw[e2]at d2
     have hfr:fre z1 z2 m=true:=by unfold fre;rw[e1,e2];rfl
     rw[hfr,if_pos rfl]at hfs
     obtain⟨fn,tmps,assign,body,hy,hRd⟩:=HY.out _ m _ hI hRr (by omega)
     have HFS:=hid hfs
     have HB:=hid (fun (nn:Nat) (u:World)=>(callsIn_wide (n:=nn)).2 (blockOf_any k m hk (by omega) u))
     clear hfs hfr e1 e2 hfl
     dsimp only at hy
     generalize 480 * k+m+1=bn at *
     gi_wp2_with (refine⟨trivial,?_⟩;gi_at_call 188;refine (HB.out _ _).mono ?_;rintro e W3 ⟨rfl,hW3⟩;rw[hW3];clear hW3)
     refine hRd.mono ?_
     rintro e W3 (⟨rfl,q1,q2⟩ | ⟨rfl,c,q1,q2⟩)
     ·have Q1:=hid q1
      have Q2:=hid q2
      clear q1 q2 hy hRd
      gi_wp2
      go_roundw
      case rel=>exact⟨m+1,by omega,by go_num,by rw[HFS.out];exact Q1.out,Q2.out⟩
      case measure=>simp[intOf];omega
     ·have Q1:=hid q1
      have Q2:=hid q2
      clear q1 q2 hy hRd
      gi_wp2
      refine bodyPost_ret (results_none rfl _ _ _) rfl ?_
      exact⟨⟨_,rfl⟩,.inr ⟨_,c,⟨m,hmn,HFS.out.symm⟩,Q1.out,Q2.out⟩⟩
    ·have hfr:fre z1 z2 m=false:=by unfold fre;rw[Bool.and_eq_false_iff];exact .inr (by simpa using e2)
     rw[hfr,if_neg (by decide),List.append_nil]at hfs
     have HFS:=hid hfs
     have HI:=hid hI
     have HRr:=hid hRr
     clear hfs hfr hI hRr e1 hfl
     generalize z2.getD (32+m) 0=z at *
     have hz:(z == 0)=false:=by simpa using e2
     clear e2
     gi_wp2_with (refine⟨trivial,?_⟩)
     refine⟨fun _ _=>trivial,?_⟩
     gi_wp2
     go_roundw
     case rel=>exact⟨m+1,by omega,by go_num,by rw[HFS.out];exact HI.out,HRr.out⟩
     case measure=>simp[intOf];omega
   ·have hfr:fre z1 z2 m=false:=by unfold fre;rw[Bool.and_eq_false_iff];exact .inl (by simpa using e1)
    rw[hfr,if_neg (by decide),List.append_nil]at hfs
    have HFS:=hid hfs
    have HI:=hid hI
    have HRr:=hid hRr
    clear hfs hfr hI hRr d2 hfl
    generalize z1.getD (32+m) 0=z at *
    have hz:(z == 0)=false:=by simpa using e1
    clear e1
    gi_wp2_with (refine⟨trivial,?_⟩)
    refine⟨fun _ _=>trivial,?_⟩
    gi_wp2
    go_roundw
    case rel=>exact⟨m+1,by omega,by go_num,by rw[HFS.out];exact HI.out,HRr.out⟩
    case measure=>simp[intOf];omega
  ·have hmn':¬(m:Int)<(nk:Int):=by omega
   obtain rfl:m=nk:=by omega
   have HI:=hid hI
   have HRr:=hid hRr
   clear hI hRr
   gi_wp2
   go_end0
   exact⟨⟨_,rfl⟩,.inl ⟨HI.out,HRr.out⟩⟩
open Go.RowKit Go.Deep
def GfI (Y:Nat->Prop) (w0:World) (F:Cf) (K N:Nat) (C:Nat->List Int) (t:Nat) (L:Nat->Option (List Int)) (Ms:List (Nat->Option (List Int))) (n x f r k gb:Nat) (sz lf bk zk:Int) (b ab:Bool) (B0 q4 q5:Nat) (v4 v5:Value) (g cp g2 cp2:Nat) (A:World):Prop :=
 GfC Y w0 F K N C t L Ms n x f r k gb sz lf bk zk b ab/\∃Y',Opn Y' A F (K+2) N C t L Ms n/\Gr Y Y' w0/\But Y w0 A/\Bxk w0.heap.size Y' A q4 v4/\Bxk w0.heap.size Y' A q5 v5/\q4≠q5/\GfQ w0.heap.size Y' A ((L (f+(indexN r+k))).getD (C (f+(indexN r+k)))) (cpg b r (indexN r+k) (C (f+(indexN r+k)))) g cp g2 cp2/\(∀q,Y' q->q<B0)/\(q4<B0/\q5<B0/\g<B0/\g2<B0/\w0.heap.size<=B0)
section
variable {Y:Nat->Prop} {w0:World} {F:Cf} {K N:Nat} {C:Nat->List Int} {t:Nat} {L:Nat->Option (List Int)} {Ms:List (Nat->Option (List Int))} {n:Nat} {x f r k gb:Nat} {sz lf bk zk:Int} {b ab:Bool} {B0 q4 q5:Nat} {v4 v5:Value} {g cp g2 cp2:Nat} {A:World}
theorem GfS.gfi(h:GfS Y w0 F K N C t L Ms n x f r k gb sz lf bk zk b ab 2 (some q4) (some q5) v4 v5 g cp g2 cp2 A):GfI Y w0 F K N C t L Ms n x f r k gb sz lf bk zk b ab A.heap.size q4 q5 v4 v5 g cp g2 cp2 A:=by
 obtain⟨hc,Y',h1,h2,h3,h4,h5,h6,h7⟩:=h
 have q:=h7 rfl
 exact⟨hc,Y',h1,h2,h3,h4 q4 rfl,h5 q5 rfl,h6 q4 q5 rfl rfl,q,h1.lt,(h4 q4 rfl).lt,(h5 q5 rfl).lt,q.1.1.lt,q.2.1.1.lt,h3.size⟩
theorem GfI.keep(h:GfI Y w0 F K N C t L Ms n x f r k gb sz lf bk zk b ab B0 q4 q5 v4 v5 g cp g2 cp2 A)(hb:But X A A')(hX:∀k,k<A.heap.size->X k->B0<=k):GfI Y w0 F K N C t L Ms n x f r k gb sz lf bk zk b ab B0 q4 q5 v4 v5 g cp g2 cp2 A':=by
 obtain⟨hc,Y',h1,h2,h3,h4,h5,h6,h7,h8,h9,h10,h11,h12,h13⟩:=h
 have nX:∀k,k<A.heap.size->k<B0->¬X k:=fun k a b e=>by have:=hX k a e;omega
 exact⟨hc,Y',h1.keep hb (fun k hk e1 e2=>nX k hk (h8 k e2) e1),h2,h3.comp hb (fun k hk e=>by have:=hX k (Nat.lt_of_lt_of_le hk h3.size) e;omega),h4.but hb (nX q4 h4.lt h9),h5.but hb (nX q5 h5.lt h10),h6,⟨⟨h7.1.1.keep (hb.block g h7.1.1.lt (nX g h7.1.1.lt h11)),h7.1.2⟩,⟨h7.2.1.1.keep (hb.block g2 h7.2.1.1.lt (nX g2 h7.2.1.1.lt h12)),h7.2.1.2⟩,h7.2.2⟩,h8,h9,h10,h11,h12,h13⟩
theorem GfI.out(h:GfI Y w0 F K N C t L Ms n x f r k gb sz lf bk zk b ab B0 q4 q5 v4 v5 g cp g2 cp2 A):∃Y',Opn Y' A F (K+2) N C t L Ms n/\Gr Y Y' w0/\But Y w0 A/\∀q,Y' q->q<B0:=by
 obtain⟨hc,Y',h1,h2,h3,h4,h5,h6,h7,h8,h9⟩:=h
 exact⟨Y',h1,h2,h3,h8⟩
theorem GfI.lt(h:GfI Y w0 F K N C t L Ms n x f r k gb sz lf bk zk b ab B0 q4 q5 v4 v5 g cp g2 cp2 A):w0.heap.size<=B0:=by
 obtain⟨hc,Y',h1,h2,h3,h4,h5,h6,h7,h8,h9,h10,h11,h12,h13⟩:=h
 exact h13
end
theorem GfI.frv{gb:Nat}{sz:Int}{b:Bool}{q4 q5 g g2 cp2:Nat}(h:GfI Y w0 F K N C t L Ms n x f r k gb sz lf (nk:Int) zk b ab B0 q4 q5 (.slice (some ⟨g,0,none⟩) 512 cp) (.slice (some ⟨g2,0,none⟩) 512 cp2) g cp g2 cp2 A):FrV gb q4 q5 k nk g cp g2 cp2 ((L (f+(indexN r+k))).getD (C (f+(indexN r+k)))) (cpg b r (indexN r+k) (C (f+(indexN r+k)))) A:=by
 obtain⟨hc,Y',h1,h2,h3,h4,h5,h6,h7,h8,h9⟩:=h
 have gl:gb<w0.heap.size:=(Array.getElem?_eq_some_iff.1 hc.gbk).1
 have hg:=(h3.block gb gl (fun q=>by have:=hc.lt _ q;omega)).trans hc.gbk
 exact⟨by simp[World.cell?,hg],by simp[World.cell?,hg],h4.cell,h5.cell,fun i hi=>h7.1.1.cell i hi,fun i hi=>h7.2.1.1.cell i hi⟩
structure GpC (Y:Nat->Prop) (w:World) (F:Cf) (K N:Nat) (C:Nat->List Int) (t:Nat) (L:Nat->Option (List Int)) (Ms:List (Nat->Option (List Int))) (n x f r k:Nat):Prop where
 op:Opn Y w F K N C t L Ms n
 sp:Spb w x f r F.st
 nx:¬Y x
 hr:r<=262144
 hk:k<=1000
 hK:K+2<4611686018427387904
 f1:64<=f+(indexN r+k)
 f2:f+(indexN r+k)<F.nb
 pg:isPg r (indexN r+k) ((L (f+(indexN r+k))).getD (C (f+(indexN r+k))))=true
theorem GpC.below(h:GpC Y w F K N C t L Ms n x f r k)(b:Below w.heap.size w w'):GpC Y w' F K N C t L Ms n x f r k :=
 ⟨h.op.below b,h.sp.keep (b.block x h.sp.lt),h.nx,h.hr,h.hk,h.hK,h.f1,h.f2,h.pg⟩
theorem GpC.gfs{sz:Int}{b:Bool}(h:GpC Y w0 F K N C t L Ms n x f r k):GfS Y (w0.alloc (.cells #[.pointer (some ⟨x,0,none⟩),.int .i64 sz,.int .i64 lf,.pointer (some ⟨t,0,none⟩),.pointer (some ⟨F.st,0,none⟩),.bool b,.int .i64 (k:Int),.int .i64 (nk:Int),.int .i64 zk,.bool ab] 166)) F K N C t L Ms n x f r k w0.heap.size sz lf (nk:Int) zk b ab 0 none none (.slice none 0 0) (.slice none 0 0) 0 0 0 0 (w0.alloc (.cells #[.pointer (some ⟨x,0,none⟩),.int .i64 sz,.int .i64 lf,.pointer (some ⟨t,0,none⟩),.pointer (some ⟨F.st,0,none⟩),.bool b,.int .i64 (k:Int),.int .i64 (nk:Int),.int .i64 zk,.bool ab] 166)).drew:=by
 have b0:Below w0.heap.size w0 (w0.alloc (.cells #[.pointer (some ⟨x,0,none⟩),.int .i64 sz,.int .i64 lf,.pointer (some ⟨t,0,none⟩),.pointer (some ⟨F.st,0,none⟩),.bool b,.int .i64 (k:Int),.int .i64 (nk:Int),.int .i64 zk,.bool ab] 166)):=(Below.refl _ _).alloc (Nat.le_refl _) _
 have bd:Below w0.heap.size w0 (w0.alloc (.cells #[.pointer (some ⟨x,0,none⟩),.int .i64 sz,.int .i64 lf,.pointer (some ⟨t,0,none⟩),.pointer (some ⟨F.st,0,none⟩),.bool b,.int .i64 (k:Int),.int .i64 (nk:Int),.int .i64 zk,.bool ab] 166)).drew:=b0.drew
 refine⟨⟨h.sp.keep (b0.block x h.sp.lt),h.nx,Array.getElem?_push_size,h.op.lt,h.hr,h.hk,h.hK,h.f1,h.f2,h.pg⟩,Y,h.op.below bd,Gr.refl _ _,(But.refl Y _).drew,(fun q e=>by cases e),(fun q e=>by cases e),(fun q q' e=>by cases e),(fun e=>absurd e (by decide))⟩
open Go.RowKit Go.Deep Go.Shelf
attribute [local go_sem] Oper.semAt_some
theorem GpC.countFree{sz:Int}{b:Bool}(h:GpC Y w F K N C t L Ms n x f r k)(hnk:nk<=480) :
  Calls Tryz.prog 129 #[.agg #[.pointer (some ⟨x,0,none⟩),.int .i64 sz,.int .i64 lf,.pointer (some ⟨t,0,none⟩),.pointer (some ⟨F.st,0,none⟩),.bool b,.int .i64 (k:Int),.int .i64 (nk:Int),.int .i64 zk,.bool ab]] w fun e w'=>∃K' Y',e=.returned (.tuple #[.int .i64 (if ab then zk else ((frl ((L (f+(indexN r+k))).getD (C (f+(indexN r+k)))) (cpg b r (indexN r+k) (C (f+(indexN r+k)))) nk).length:Int)),.int .i64 0])/\K'<=K+2/\Opn Y' w' F K' N C t L Ms n/\Gr Y Y' w/\But Y w w':=by
 refine poz fun PO hPO=>?_
 obtain⟨w0,hw0⟩:∃w0,w0=(w.alloc (.cells #[.pointer (some ⟨x,0,none⟩),.int .i64 sz,.int .i64 lf,.pointer (some ⟨t,0,none⟩),.pointer (some ⟨F.st,0,none⟩),.bool b,.int .i64 (k:Int),.int .i64 (nk:Int),.int .i64 zk,.bool ab] 166)):=⟨_,rfl⟩
 have z0:w0.heap.size=w.heap.size+1:=by rw[hw0];simp
 have b0:Below w.heap.size w w0:=by rw[hw0];exact (Below.refl _ _).alloc (Nat.le_refl _) _
 cases ab with
 | true=>
  have FIN:Hid (PO (.returned (.tuple #[.int .i64 zk,.int .i64 0])) w0):=by
   rw[hPO]
   exact⟨K,Y,rfl,by omega,h.op.below b0,Gr.refl _ _,But.of_below b0⟩
  rw[hw0]at FIN
  clear hPO h b0 z0 hw0
  go_enter Tryz.func129,Tryz.ntmps129
  go_wp2
  exact FIN.out
 | false=>
  have HG:=hid (gfree_any (w:=w0) ((h.below b0).gfs (nk:=nk) (sz:=sz) (lf:=lf) (zk:=zk) (b:=b) (ab:=false)))
  have HW:=hid hw0
  have HPO:=hid hPO
  have hlt:=hid h.op.lt
  have hgb:w0.heap[w.heap.size]?=some (.cells #[.pointer (some ⟨x,0,none⟩),.int .i64 sz,.int .i64 lf,.pointer (some ⟨t,0,none⟩),.pointer (some ⟨F.st,0,none⟩),.bool b,.int .i64 (k:Int),.int .i64 (nk:Int),.int .i64 zk,.bool false] 166 (0,0)):=by rw[hw0];exact Array.getElem?_push_size
  have cc:∀i,w0.cell? ⟨w.heap.size,i,none⟩=#[.pointer (some ⟨x,0,none⟩),.int .i64 sz,.int .i64 lf,.pointer (some ⟨t,0,none⟩),.pointer (some ⟨F.st,0,none⟩),.bool b,.int .i64 (k:Int),.int .i64 (nk:Int),.int .i64 zk,.bool false][i]?:=fun i=>by simp[World.cell?,hgb]
  clear h hPO hgb
  refine (callsIn_wide (n:=5)).1 ?_
  refine callsIn_of_wp_marks Tryz.func129 rfl trivial ?_ rfl
  refine wpIn_wide.2 ?_
  simp only[Tryz.ntmps129,List.size_toArray,List.length_cons,List.length_nil,Nat.reduceAdd,Nat.reduceSub,Array.replicate_succ,Array.replicate_zero,List.push_toArray,List.append_toArray,List.nil_append,List.cons_append]
  go_wp2_with fail
  rw[<- HW.out]
  refine Calls.mono HG.out ?_
  rintro e w1 ⟨q4,q5,g,cp,g2,cp2,rfl,hs⟩
  have HI:=hid hs.gfi
  clear hs HG HW cc hw0
  go_wp2_with fail
  obtain⟨w2,hw2⟩:∃w2,w2=w1.alloc (.cells #[.int .i64 0] 3):=⟨_,rfl⟩
  obtain⟨B0,hB0⟩:∃B0,B0=w1.heap.size:=⟨_,rfl⟩
  have z2:w2.heap.size=w1.heap.size+1:=by rw[hw2];simp
  have b2:Below w1.heap.size w1 w2:=by rw[hw2];exact (Below.refl _ _).alloc (Nat.le_refl _) _
  have hI1:=HI.out
  rw[<- hB0]at hI1
  have hI2:=hI1.keep (But.of_below b2 (X:=fun _=>False)) (fun _ _ q=>q.elim)
  have hc2:w2.heap[w1.heap.size]?=some (.cells #[.int .i64 0] 3 (0,0)):=by rw[hw2];exact Array.getElem?_push_size
  obtain⟨I,hIdef⟩:∃I:List Nat->World->Prop,I=fun pre W=>GfI Y (w0.alloc (.cells #[.pointer (some ⟨x,0,none⟩),.int .i64 sz,.int .i64 lf,.pointer (some ⟨t,0,none⟩),.pointer (some ⟨F.st,0,none⟩),.bool b,.int .i64 (k:Int),.int .i64 (nk:Int),.int .i64 zk,.bool false] 166)) F K N C t L Ms n x f r k w0.heap.size sz lf (nk:Int) zk b false B0 q4 q5 (.slice (some ⟨g,0,none⟩) 512 cp) (.slice (some ⟨g2,0,none⟩) 512 cp2) g cp g2 cp2 W/\W.heap[B0]?=some (.cells #[.int .i64 (pre.length:Int)] 3 (0,0)):=⟨_,rfl⟩
  have hIk:∀pre (X:Nat->Prop) W W',But X W W'->(∀q,X q->B0<q)->I pre W->I pre W':=fun pre X W W' hb hX q=>by
   rw[hIdef]at q ⊢
   exact⟨q.1.keep hb (fun q _ e=>Nat.le_of_lt (hX q e)),(hb.block B0 (Array.getElem?_eq_some_iff.1 q.2).1 (fun e=>by have:=hX _ e;omega)).trans q.2⟩
  have HIdef:=hid hIdef
  have HIk:=hid hIk
  have I0:Hid (I [] w2):=by rw[hIdef];exact⟨hI2,by rw[hB0];exact hc2⟩
  have HV:∀pre W,I pre W->FrV (w.heap.size+1) q4 q5 k nk g cp g2 cp2 ((L (f+(indexN r+k))).getD (C (f+(indexN r+k)))) (cpg b r (indexN r+k) (C (f+(indexN r+k)))) W:=fun pre W q=>by
   rw[hIdef]at q
   have:=q.1.frv
   rwa [z0]at this
  have HEnd:Hid (∀D W xs,w2.heap.size=D->xs=frl ((L (f+(indexN r+k))).getD (C (f+(indexN r+k)))) (cpg b r (indexN r+k) (C (f+(indexN r+k)))) nk->I xs W->PO (.returned (.tuple #[.int .i64 (xs.length:Int),.int .i64 0])) (W.putObj D (.deferred none))):=fun D W xs hD hS hi=>by
   rw[hIdef]at hi
   obtain⟨Y',o1,o2,o3,o4⟩:=hi.1.out
   have s3:w0.heap.size+1<=W.heap.size:=by
    have:=o3.size
    simpa using this
   have bp:=but_put W D (.deferred none)
   have b0':Below w0.heap.size w0 (w0.alloc (.cells #[.pointer (some ⟨x,0,none⟩),.int .i64 sz,.int .i64 lf,.pointer (some ⟨t,0,none⟩),.pointer (some ⟨F.st,0,none⟩),.bool b,.int .i64 (k:Int),.int .i64 (nk:Int),.int .i64 zk,.bool false] 166)):=(Below.refl _ _).alloc (Nat.le_refl _) _
   have b01:Below w.heap.size w (w0.alloc (.cells #[.pointer (some ⟨x,0,none⟩),.int .i64 sz,.int .i64 lf,.pointer (some ⟨t,0,none⟩),.pointer (some ⟨F.st,0,none⟩),.bool b,.int .i64 (k:Int),.int .i64 (nk:Int),.int .i64 zk,.bool false] 166)):=b0.trans (b0'.mono (by omega))
   have zz:(w0.alloc (.cells #[.pointer (some ⟨x,0,none⟩),.int .i64 sz,.int .i64 lf,.pointer (some ⟨t,0,none⟩),.pointer (some ⟨F.st,0,none⟩),.bool b,.int .i64 (k:Int),.int .i64 (nk:Int),.int .i64 zk,.bool false] 166)).heap.size=w0.heap.size+1:=by simp
   have hlB:=hi.1.lt
   rw[HPO.out]
   refine⟨K+2,Y',by rw[hS];rfl,Nat.le_refl _,o1.keep bp (fun q _ e1 e2=>by have:=o4 q e2;omega),fun q hq e=>o2 q (by omega) e,?_⟩
   exact ((But.of_below b01 (X:=Y)).trans o3).comp bp (fun q hq e=>by omega)
  have HW2:=hid hw2
  have hkk:k<=1000:=hI1.1.hk
  have HIT:=hid (free1_it 3 (by omega) (w.heap.size+1) q4 q5 k nk g cp g2 cp2 ((L (f+(indexN r+k))).getD (C (f+(indexN r+k)))) (cpg b r (indexN r+k) (C (f+(indexN r+k)))) hkk hnk w2.heap.size I (fun _ _ _=>False) w2 HV)
  rw[<- hw2]
  clear hI1 hI2 hc2 hIdef hIk hw2 HI HV
  refine (wpIn_wide (n:=4)).1 ?_
  refine rfLaw (F:=Fence.wide) (n:=4) rfl (by omega) (gf:=187) (lb:=#[.pointer (some ⟨w.heap.size+1,0,none⟩),.pointer (some ⟨q4,0,none⟩),.pointer (some ⟨q5,0,none⟩)]) rfl trivial (enters_of Tryz.func187 (by kernel_rfl) rfl) (fun _=>rfl) I (fun _ _ _=>False) ?hI (fun _ _ _ _ _ q=>q) ?h0 (fun pre i a' W=>I pre W/\a'={ tmps:=#[Value.agg #[Value.pointer (some { block:=x,off:=0 }),Value.int IntKind.i64 sz,Value.int IntKind.i64 lf,Value.pointer (some { block:=t,off:=0 }),Value.pointer (some { block:=F.st,off:=0 }),Value.bool b,Value.int IntKind.i64 ↑k,Value.int IntKind.i64 ↑nk,Value.int IntKind.i64 zk,Value.bool false],Value.pointer (some { block:=w.heap.size,off:=0 }),Value.int IntKind.i64 0,Value.int IntKind.i64 0,Value.func (Fn.func 187) #[] #[Value.pointer (some { block:=w.heap.size+1,off:=0 }),Value.pointer (some { block:=q4,off:=0 }),Value.pointer (some { block:=q5,off:=0 })],Value.int IntKind.i64 0,Value.pointer (some { block:=w1.heap.size,off:=0 }),Value.pointer (some { block:=w.heap.size,off:=9 }),Value.bool false,undef,undef,Value.tuple #[Value.func (Fn.func 187) #[] #[Value.pointer (some { block:=w.heap.size+1,off:=0 }),Value.pointer (some { block:=q4,off:=0 }),Value.pointer (some { block:=q5,off:=0 })],Value.int IntKind.i64 0],Value.agg #[Value.pointer (some { block:=x,off:=0 }),Value.int IntKind.i64 sz,Value.int IntKind.i64 lf,Value.pointer (some { block:=t,off:=0 }),Value.pointer (some { block:=F.st,off:=0 }),Value.bool b,Value.int IntKind.i64 ↑k,Value.int IntKind.i64 ↑nk,Value.int IntKind.i64 zk,Value.bool false],Value.tuple #[Value.func (Fn.func 187) #[] #[Value.pointer (some { block:=w.heap.size+1,off:=0 }),Value.pointer (some { block:=q4,off:=0 }),Value.pointer (some { block:=q5,off:=0 })],Value.int IntKind.i64 0],Value.func (Fn.func 187) #[] #[Value.pointer (some { block:=w.heap.size+1,off:=0 }),Value.pointer (some { block:=q4,off:=0 }),Value.pointer (some { block:=q5,off:=0 })],Value.int IntKind.i64 0,Value.int IntKind.i64 0,Value.bool false,undef,Value.func (Fn.func 187) #[] #[Value.pointer (some { block:=w.heap.size+1,off:=0 }),Value.pointer (some { block:=q4,off:=0 }),Value.pointer (some { block:=q5,off:=0 })],Value.int IntKind.i64 ((480 * k+i+1:Nat):Int),undef,undef,undef],defers:=[] }) ?hAx HIT.out ?assign ?body ?done ?stop
  case hI=>exact fun s W o _ q=>HIk.out s _ W _ (but_put W _ o) (fun q e=>by omega) q
  case h0=>exact fun o1 o2=>HIk.out [] (fun _=>False) w2 _ (But.of_below (((Below.refl _ _).alloc (Nat.le_refl _) o1).alloc (by simp) o2)) (fun _ q=>q.elim) I0.out
  case hAx=>exact fun pre x a' W o _ q=>⟨HIk.out pre _ W _ (but_put W _ o) (fun q e=>by omega) q.1,q.2⟩
  case assign=>
   intro l pre i W KK hlt hi hlen hK
   gi_wp2
   exact hK _ _ (Dl2.refl _ _) ⟨hi,by simp⟩
  case body=>
   rintro l pre i a' W hlt ⟨hi,rfl⟩ hlen
   have hi2:=hi
   rw[HIdef.out]at hi2
   have c6:W.cell? ⟨w1.heap.size,0,none⟩=some (.int .i64 (pre.length:Int)):=by rw[<- hB0];simp[World.cell?,hi2.2]
   have f6:W.frozen? ⟨w1.heap.size,0,none⟩=false:=by rw[<- hB0];simp[World.frozen?,hi2.2]
   have hlen2:(pre.length:Int)<480:=by omega
   have NX:Hid (Dl2 w2.heap.size W (W.setCell ⟨w1.heap.size,0,none⟩ (.int .i64 ((pre.length:Int)+1)))/\I (pre++[i]) (W.setCell ⟨w1.heap.size,0,none⟩ (.int .i64 ((pre.length:Int)+1)))):=by
    have bs:=but_set W w1.heap.size 0 (.int .i64 ((pre.length:Int)+1))
    refine⟨Dl2.of_but bs hlt (by omega) (by omega),?_⟩
    rw[HIdef.out]
    refine⟨hi2.1.keep bs (fun q _ e=>by omega),?_⟩
    have hq:=hi2.2
    rw[hB0]at hq ⊢
    simp only[World.setCell,Array.getElem?_modify]
    simp[hq]
   clear hi hi2 HIT HEnd HIk HIdef
   gi_wp2
   exact NX.out
  case done=>
   rintro D xs W hD hS hi hDk
   have HP:=hid (HEnd.out D W xs hD hS hi)
   have hi2:=hi
   rw[HIdef.out]at hi2
   have c6:W.cell? ⟨w1.heap.size,0,none⟩=some (.int .i64 (xs.length:Int)):=by rw[<- hB0];simp[World.cell?,hi2.2]
   have HDk:=hid hDk
   clear hi hi2 HIT HEnd HIk HIdef hS hDk hD
   go_wp2_with fail
   refine⟨by simp,.inl ⟨_,_,rfl,run_takeDeferred HDk.out,?_⟩⟩
   refine⟨_,results_tmp2 rfl _ _ _,?_⟩
   simpa using HP.out
  case stop=>
   rintro D c pre W _ _ q _
   exact q.elim
end Go.Proofs.YtlefjidbpjkhlaaGreat
