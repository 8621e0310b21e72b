import Derived.Test.YtlefjidbpjkhlaaGreatK30
import Derived.Test.YtlefjidbpjkhlaaGreatK11
import Derived.Test.YtlefjidbpjkhlaaGreatK33
set_option maxRecDepth 100000
set_option maxHeartbeats 16000000
namespace Go.Proofs.YtlefjidbpjkhlaaGreat
variable {w w':World}
variable {K N f0 f1 o r0 r1 st:Nat}
variable {PO:Ending->World->Prop}
variable {Y:Nat->Prop}
variable {F:Cf}
variable {C:Nat->List Int}
variable {Fo Ov:Value}
variable {off:Bool}
open Go.RowKit
def OpC1 (o st f1 r1:Nat) (PO:Ending->World->Prop) (w:World):Prop:=(w.drew.cell? ⟨o,1,none⟩=some (.pointer (some ⟨st,0,none⟩))/\w.drew.cell? ⟨o,6,none⟩=some (.int .i64 (f1:Int))/\w.drew.cell? ⟨o,8,none⟩=some (.int .i64 (r1:Int)))/\Calls Tryz.prog 17 #[.pointer (some ⟨st,0,none⟩),.int .i64 (f1:Int),.int .i64 (r1:Int)] w.drew fun e w1=>∃x,e=.returned (.tuple #[.pointer (some ⟨x,0,none⟩),.int .i64 0])/\(w1.cell? ⟨o,1,none⟩=some (.pointer (some ⟨st,0,none⟩))/\w1.cell? ⟨o,6,none⟩=some (.int .i64 (f1:Int))/\w1.cell? ⟨o,8,none⟩=some (.int .i64 (r1:Int)))/\((∃u,w1.cell? ⟨o,4,none⟩=some u)/\w1.frozen? ⟨o,4,none⟩=false)/\∀w2,w2=w1.setCell ⟨o,4,none⟩ (.pointer (some ⟨x,0,none⟩))->PO (.returned (.bool true)) w2
def OpC (o st f0 f1 r0 r1:Nat) (PO:Ending->World->Prop) (w:World):Prop:=(w.drew.cell? ⟨o,1,none⟩=some (.pointer (some ⟨st,0,none⟩))/\w.drew.cell? ⟨o,5,none⟩=some (.int .i64 (f0:Int))/\w.drew.cell? ⟨o,7,none⟩=some (.int .i64 (r0:Int)))/\Calls Tryz.prog 17 #[.pointer (some ⟨st,0,none⟩),.int .i64 (f0:Int),.int .i64 (r0:Int)] w.drew fun e w1=>∃x,e=.returned (.tuple #[.pointer (some ⟨x,0,none⟩),.int .i64 0])/\(w1.cell? ⟨o,1,none⟩=some (.pointer (some ⟨st,0,none⟩))/\w1.cell? ⟨o,5,none⟩=some (.int .i64 (f0:Int))/\w1.cell? ⟨o,7,none⟩=some (.int .i64 (r0:Int)))/\((∃u,w1.cell? ⟨o,3,none⟩=some u)/\w1.frozen? ⟨o,3,none⟩=false)/\∀w2,w2=w1.setCell ⟨o,3,none⟩ (.pointer (some ⟨x,0,none⟩))->OpC1 o st f1 r1 PO w2
theorem wopen_walk(H:OpC o st f0 f1 r0 r1 PO w):Calls Tryz.prog 36 #[.pointer (some ⟨o,0,none⟩)] w PO:=by
 have HR0:=hid H
 clear H
 go_enter Tryz.func36,Tryz.ntmps36
 go_wp2_with fail
 go_loopw [3] (fun iv wr=>∃q:Nat,q<=2/\iv=.int .i64 (q:Int)/\((q=0/\wr=w)\/(q=1/\OpC1 o st f1 r1 PO wr)\/(q=2/\PO (.returned (.bool true)) wr))) (fun iv _=>2-(intOf iv).toNat)
 case atStart=>exact⟨0,by decide,rfl,.inl ⟨rfl,rfl⟩⟩
 case round=>
  rename World=>wo
  obtain⟨q,hq2,rfl,hR⟩:=hrel
  rcases hR with ⟨hq,hR⟩ | ⟨hq,hR⟩ | ⟨hq,hR⟩
  ·subst hq
   rw[hR]
   obtain⟨kS,hcall⟩:=HR0.out
   have HC:=hid hcall
   clear hcall
   go_wp2_with fail
   refine Gz (S:=fun w'=>w'.cell? ⟨o,1,none⟩=some (.pointer (some ⟨st,0,none⟩))/\w'.cell? ⟨o,5,none⟩=some (.int .i64 (f0:Int))/\w'.cell? ⟨o,7,none⟩=some (.int .i64 (r0:Int))) kS (fun hSS=>?_)
   refine Ti 0 rfl ?_
   refine Ti 1 rfl ?_
   refine Ti 2 rfl ?_
   refine Ti 3 rfl ?_
   refine Ti 4 rfl ?_
   refine Ti 5 rfl ?_
   try simp only[Act.put,zA,zB,zC]
   refine Ti 6 rfl ?_
   refine Ti 7 rfl ?_
   refine Ti 8 rfl ?_
   refine Ti 9 rfl ?_
   refine Ti 10 rfl ?_
   refine Ti 11 rfl ?_
   try simp only[Act.put,zA,zB,zC]
   refine Ti 12 rfl ?_
   refine Ti 13 rfl ?_
   refine Ti 14 rfl ?_
   refine Ti 15 rfl ?_
   try simp only[Act.put,zA,zB,zC]
   refine Ri 16 rfl (fun K9 hK9=>?_)
   go_simp
   go_at_call 17
   refine Calls.mono HC.out ?_
   rintro e w1 ⟨x,rfl,hk1,⟨⟨u,hu⟩,hf⟩,h3⟩
   have NX:=hid h3
   clear h3 HC
   refine hK9.out _ _ hk1 (fun hSS=>?_)
   try simp only[Act.put,zA,zB,zC]
   refine Ti 17 rfl ?_
   refine Ti 18 rfl ?_
   refine Ti 19 rfl ?_
   try simp only[Act.put,zA,zB,zC]
   refine Ti 20 rfl ?_
   refine Ti 21 rfl ?_
   try simp only[Act.put,zA,zB,zC]
   refine Dn ?_
   clear hSS kS hk1
   go_wp2_with fail
   refine Calls.mono (num_any 0 w1) ?_
   rintro e w9 ⟨rfl,hw9⟩
   rw[hw9]
   clear hw9
   go_wp2_with fail
   go_roundw
   case rel=>exact⟨1,by decide,by go_num,.inr (.inl ⟨rfl,NX.out _ rfl⟩)⟩
   case measure=>simp[intOf]
  ·subst hq
   obtain⟨kS,hcall⟩:=hR
   have HC:=hid hcall
   clear hcall
   go_wp2_with fail
   refine Gz (S:=fun w'=>w'.cell? ⟨o,1,none⟩=some (.pointer (some ⟨st,0,none⟩))/\w'.cell? ⟨o,6,none⟩=some (.int .i64 (f1:Int))/\w'.cell? ⟨o,8,none⟩=some (.int .i64 (r1:Int))) kS (fun hSS=>?_)
   refine Ti 0 rfl ?_
   refine Ti 1 rfl ?_
   refine Ti 2 rfl ?_
   refine Ti 3 rfl ?_
   refine Ti 4 rfl ?_
   try simp only[Act.put,zA,zB,zC]
   refine Ti 5 rfl ?_
   refine Ti 6 rfl ?_
   refine Ti 7 rfl ?_
   refine Ti 8 rfl ?_
   refine Ti 9 rfl ?_
   refine Ti 10 rfl ?_
   try simp only[Act.put,zA,zB,zC]
   refine Ti 11 rfl ?_
   refine Ti 12 rfl ?_
   refine Ti 13 rfl ?_
   refine Ti 14 rfl ?_
   refine Ti 15 rfl ?_
   try simp only[Act.put,zA,zB,zC]
   refine Ri 16 rfl (fun K9 hK9=>?_)
   go_simp
   go_at_call 17
   refine Calls.mono HC.out ?_
   rintro e w1 ⟨x,rfl,hk1,⟨⟨u,hu⟩,hf⟩,h3⟩
   have NX:=hid h3
   clear h3 HC
   refine hK9.out _ _ hk1 (fun hSS=>?_)
   try simp only[Act.put,zA,zB,zC]
   refine Ti 17 rfl ?_
   refine Ti 18 rfl ?_
   try simp only[Act.put,zA,zB,zC]
   refine Ti 19 rfl ?_
   refine Ti 20 rfl ?_
   refine Ti 21 rfl ?_
   try simp only[Act.put,zA,zB,zC]
   refine Dn ?_
   clear hSS kS hk1
   go_wp2_with fail
   refine Calls.mono (num_any 0 w1) ?_
   rintro e w9 ⟨rfl,hw9⟩
   rw[hw9]
   clear hw9
   go_wp2_with fail
   go_roundw
   case rel=>exact⟨2,by decide,by go_num,.inr (.inr ⟨rfl,NX.out _ rfl⟩)⟩
   case measure=>simp[intOf]
  ·subst hq
   have FIN:=hid hR
   clear hR HR0
   go_wp2
   exact FIN.out
open Go.RowKit Go.Deep
def Wlb (w:World) (o:Nat) (cs:Array Value):Prop:=w.heap[o]?=some (.cells cs 33 (0,0))
theorem Wlb.lt{cs:Array Value}(h:Wlb w o cs):o<w.heap.size:=(Array.getElem?_eq_some_iff.1 h).1
theorem Wlb.keep{cs:Array Value}(h:Wlb w o cs)(hk:w'.heap[o]?=w.heap[o]?):Wlb w' o cs:=hk.trans h
theorem Wlb.cell{cs:Array Value}(h:Wlb w o cs)(i:Nat):w.cell? ⟨o,i,none⟩=cs[i]?:=by
 unfold Wlb at h
 simp[World.cell?,h]
theorem Wlb.frozen{cs:Array Value}(h:Wlb w o cs)(i:Nat):w.frozen? ⟨o,i,none⟩=false:=by
 unfold Wlb at h
 simp[World.frozen?,h]
theorem Wlb.set{cs:Array Value}(h:Wlb w o cs)(i:Nat)(v:Value):Wlb (w.setCell ⟨o,i,none⟩ v) o (cs.setIfInBounds i v):=by
 unfold Wlb at *
 simp only[World.setCell,Array.getElem?_modify]
 rw[h]
 simp
theorem but_set(w:World)(o i:Nat)(v:Value):But (fun k=>k=o) w (w.setCell ⟨o,i,none⟩ v):=(But.refl (fun k=>k=o) w).setCell (p:=⟨o,i,none⟩) rfl v
def wcs (D S Fo X0 X1:Value) (f0 f1 r0 r1:Nat) (T Ov:Value) (off:Bool):Array Value:=#[D,S,Fo,X0,X1,.int .i64 (f0:Int),.int .i64 (f1:Int),.int .i64 (r0:Int),.int .i64 (r1:Int),T,Ov,.bool off]
def WopP (Y:Nat->Prop) (w:World) (o:Nat) (F:Cf) (K N:Nat) (C:Nat->List Int) (D Fo:Value) (f0 f1 r0 r1:Nat) (T Ov:Value) (off:Bool) (e:Ending) (w':World):Prop :=
 ∃x0 x1 Y',e=.returned (.bool true)/\Idl Y' w' F (K+2) N C/\Wlb w' o (wcs D (.pointer (some ⟨F.st,0,none⟩)) Fo (.pointer (some ⟨x0,0,none⟩)) (.pointer (some ⟨x1,0,none⟩)) f0 f1 r0 r1 T Ov off)/\Spb w' x0 f0 r0 F.st/\Spb w' x1 f1 r1 F.st/\(w.heap.size<=x0/\w.heap.size<=x1/\¬Y' x0/\¬Y' x1)/\Gr Y Y' w/\But (fun k=>Y k\/k=o) w w'
theorem wopen_any{D X0 X1:Value}{T:Value}(h:Idl Y w F K N C)(hw:Wlb w o (wcs D (.pointer (some ⟨F.st,0,none⟩)) Fo X0 X1 f0 f1 r0 r1 T Ov off))(hYo:¬Y o)(hK:K+2<4611686018427387904)(hf0:64<=f0/\f0<F.nb)(hf1:64<=f1/\f1<F.nb)(hr0:1<=r0/\r0<=262144)(hr1:1<=r1/\r1<=262144) :
  Calls Tryz.prog 36 #[.pointer (some ⟨o,0,none⟩)] w (WopP Y w o F K N C D Fo f0 f1 r0 r1 T Ov off):=by
 have hol:=hw.lt
 refine wopen_walk (st:=F.st) (f0:=f0) (f1:=f1) (r0:=r0) (r1:=r1) ?_
 have hd:Below w.heap.size w w.drew:=Below.drew1 w
 have hwd:=hw.keep (hd.block o hol)
 refine⟨⟨hwd.cell 1,hwd.cell 5,hwd.cell 7⟩,?_⟩
 refine Calls.mono (SOpen_any (Y:=Y) (fun Y' w'=>Idl Y' w' F (K+1) N C) (fun Y' a b q1 q2=>q2.below q1) (fun Y' a q=>q.lt) (Calls.mono ((h.below hd).sread (by omega) f0 hf0.1 hf0.2) (by
  rintro e w' ⟨g,cp,Y',rfl,r1,r2,r3,r4,r5,r6,r7⟩
  exact⟨g,cp,Y',rfl,r1,r6,r7⟩)) (r0:Int)) ?_
 rintro e w1 ⟨Y1,k1,k2,_,k4,k5⟩
 obtain⟨x,rfl,k6,k7,k8⟩:=k2 (by omega)
 rw[Int.toNat_natCast]at k7
 have s1:w.heap.size<=w1.heap.size:=k5.size
 have hw1:=hwd.keep (k5.block o hol hYo)
 have hYo1:¬Y1 o:=fun q=>hYo (k4 o hol q)
 have k6':w.heap.size<=x:=k6
 have hxo:x≠o:=by omega
 have k5':But Y w w1:=(But.of_below hd (X:=Y)).trans k5
 refine⟨x,rfl,⟨hw1.cell 1,hw1.cell 5,hw1.cell 7⟩,⟨⟨_,hw1.cell 3⟩,hw1.frozen 3⟩,fun w2 hw2=>?_⟩
 have b2:But (fun k=>k=o) w1 w2.drew:=by rw[hw2];exact (but_set w1 o 3 _).drew
 have hw2':=hw1.set 3 (.pointer (some ⟨x,0,none⟩))
 rw[<- hw2]at hw2'
 have hw2d:=hw2'.keep ((Below.drew1 w2).block o hw2'.lt)
 have k1':Idl Y1 w2.drew F (K+1) N C:=k1.keep b2 (fun k _ e1 e2=>hYo1 (e1 ▸ e2))
 have k7':Spb w2.drew x f0 r0 F.st:=k7.keep (b2.block x k7.lt hxo)
 refine⟨⟨hw2d.cell 1,hw2d.cell 6,hw2d.cell 8⟩,?_⟩
 refine Calls.mono (SOpen_any (Y:=Y1) (fun Y' w'=>Idl Y' w' F (K+2) N C) (fun Y' a b q1 q2=>q2.below q1) (fun Y' a q=>q.lt) (Calls.mono (k1'.sread (by omega) f1 hf1.1 hf1.2) (by
  rintro e w' ⟨g,cp,Y',rfl,r1,r2,r3,r4,r5,r6,r7⟩
  exact⟨g,cp,Y',rfl,r1,r6,r7⟩)) (r1:Int)) ?_
 rintro e w3 ⟨Y3,m1,m2,_,m4,m5⟩
 obtain⟨x1,rfl,m6,m7,m8⟩:=m2 (by omega)
 rw[Int.toNat_natCast]at m7
 have s2:=b2.size
 have s3:=m5.size
 have hol2:=hw2d.lt
 have hw3:=hw2d.keep (m5.block o hol2 hYo1)
 have hYo3:¬Y3 o:=fun q=>hYo1 (m4 o hol2 q)
 refine⟨x1,rfl,⟨hw3.cell 1,hw3.cell 6,hw3.cell 8⟩,⟨⟨_,hw3.cell 4⟩,hw3.frozen 4⟩,fun w4 hw4=>?_⟩
 have b4:But (fun k=>k=o) w3 w4:=by rw[hw4];exact but_set w3 o 4 _
 have hw4':=hw3.set 4 (.pointer (some ⟨x1,0,none⟩))
 rw[<- hw4]at hw4'
 have hx3:Spb w3 x f0 r0 F.st:=k7'.keep (m5.block x k7'.lt k8)
 have g13:Gr Y Y3 w:=(show Gr Y Y1 w from k4).trans m4 (by omega)
 refine⟨x,x1,Y3,rfl,m1.keep b4 (fun k _ e1 e2=>hYo3 (e1 ▸ e2)),hw4',hx3.keep (b4.block x hx3.lt hxo),m7.keep (b4.block x1 m7.lt (by omega)),⟨k6',by omega,fun q=>k8 (m4 x k7'.lt q),m8⟩,g13,?_⟩
 have bb1:But (fun k=>Y k\/k=o) w w2.drew:=(k5'.mono (fun k _ q=>.inl q)).comp b2 (fun k _ q=>.inr q)
 have bb2:But (fun k=>Y k\/k=o) w w3:=bb1.comp m5 (fun k hk q=>.inl (k4 k hk q))
 exact bb2.comp b4 (fun k _ q=>.inr q)
end Go.Proofs.YtlefjidbpjkhlaaGreat
