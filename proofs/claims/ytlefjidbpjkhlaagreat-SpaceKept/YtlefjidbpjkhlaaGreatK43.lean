import Derived.Test.YtlefjidbpjkhlaaGreatK42
set_option maxRecDepth 100000
set_option maxHeartbeats 16000000
namespace Go.Proofs.YtlefjidbpjkhlaaGreat
variable {w:World}
variable {K N f n r sz t x:Nat}
variable {lf:Int}
variable {zs:List Int}
variable {Y:Nat->Prop}
variable {F:Cf}
variable {C:Nat->List Int}
variable {L:Nat->Option (List Int)}
variable {Ms:List (Nat->Option (List Int))}
open Go.RowKit Go.Deep
attribute [local go_sem] Oper.semAt_some
theorem turn_zero{gk:Nat} :Calls Tryz.prog 98 #[.agg #[.pointer (some ⟨x,0,none⟩),.int .i64 (sz:Int),.int .i64 lf,.pointer (some ⟨t,0,none⟩)],.int .i64 (gk:Int),.int .i64 0] w fun e w'=>e=.returned (.int .i64 0)/\Below w.heap.size w w':=by
 have FIN:Hid (Below w.heap.size w (w.alloc (.cells #[.pointer (some ⟨x,0,none⟩),.int .i64 (sz:Int),.int .i64 lf,.pointer (some ⟨t,0,none⟩)] 103))):=(Below.refl _ _).alloc (Nat.le_refl _) _
 go_enter Tryz.func98,Tryz.ntmps98
 go_wp2
 exact bodyPost_ret (results_tmp rfl _ _ _) rfl ⟨rfl,FIN.out⟩
theorem Own.frz{g cap:Nat}(h:Own w g n cap zs)(t:Nat):w.frozen? ⟨g,t,none⟩=false:=by
 rcases h.2 with ⟨q,_⟩ | ⟨g',c',cur,q,_,hg,_⟩
 ·cases q
 ·cases q
  simp[World.frozen?,hg]
def chgL (C:Nat->List Int) (L:Nat->Option (List Int)) (f r b:Nat) (cnt:Int) (tk tr:Nat):Nat->Option (List Int) :=
 putL (if (min cnt 1-min ((spgA C L f (indexN r+((b-1) / 480))).getD (32+((b-1) % 480)) 0) 1)=0 then L else turnL C L f r (tsz C L f) (tlf C L f) (((b-1) / 480) / 60) (((b-1) / 480) % 60) tk tr) (f+(indexN r+((b-1) / 480))) ((spgA C L f (indexN r+((b-1) / 480))).set (32+((b-1) % 480)) cnt)
theorem Opn.changeG (h:Opn Y w F K N C t L Ms n) (hK:K+10<4611686018427387904) (hn:n+6<=1073741823) (hx:Spb w x f r F.st) (hY:¬Y x) (hT:TbS C L f r F.nb) (hnb:F.nb<=4611686018427387904) (b:Nat) (hb:1<=b/\b<=tsz C L f) (cf:Nat) (caps:Array Value) (hcf:∀(gs:Array Value) (u:World),Sem.run Tryz.prog (callFunc cf gs) u=.ok (.enter cf gs) u) (X:Nat->Prop) (hX:∀q,X q->¬Y q/\q<w.heap.size/\q≠x) (cnt ev:Int) (P6:World->World->Prop)
  (HC:∀w5,But Y w w5->Calls Tryz.prog cf (#[.int .i64 ((spgA C L f (indexN r+((b-1) / 480))).getD (32+((b-1) % 480)) 0)]++caps) w5 fun e w6=>e=.returned (.tuple #[.int .i64 cnt,.int .i64 ev])/\But X w5 w6/\P6 w5 w6) (tk tr:Nat) (hev:ev=0->(0<=cnt/\cnt<=255)/\(¬(min cnt 1-min ((spgA C L f (indexN r+((b-1) / 480))).getD (32+((b-1) % 480)) 0) 1)=0->(tk:Int)=tknZ (spgA C L f (((b-1) / 480) / 60)) (((b-1) / 480) % 60)+(min cnt 1-min ((spgA C L f (indexN r+((b-1) / 480))).getD (32+((b-1) % 480)) 0) 1)/\(tr:Int)=max (trnZ (spgA C L f (((b-1) / 480) / 60)) (((b-1) / 480) % 60)) (trnZ (cpg true r (((b-1) / 480) / 60) (C (f+((b-1) / 480) / 60))) (((b-1) / 480) % 60))+1/\tk<=65535/\tr<=281474976710655)) :
  Calls Tryz.prog 54 #[.agg #[.pointer (some ⟨x,0,none⟩),.int .i64 (tsz C L f:Int),.int .i64 (tlf C L f),.pointer (some ⟨t,0,none⟩)],.int .i64 (b:Int),.func (.func cf) #[] caps] w fun e w'=>∃K' n' Y',e=.returned (.int .i64 ev)/\(K'<=K+8/\n'<=n+6)/\Opn Y' w' F K' N C t (if ev=0 then chgL C L f r b cnt tk tr else L) Ms n'/\Gr Y Y' w/\But (fun q=>Y q\/X q) w w'/\(∃w5 w6 Y6,P6 w5 w6/\But Y w w5/\But Y6 w6 w'/\Gr Y Y6 w):=by
 have hsz:=hT.size
 have hr:=hT.hr
 have hf1:=hT.f1
 have hf2:=hT.f2
 have hil:=indexN_le hr.2
 have hk:((b-1) / 480)<countsN r:=by unfold countsN partsN;omega
 have hpn:pagesN r=indexN r+countsN r:=rfl
 have hkp:(indexN r+((b-1) / 480))<pagesN r:=by omega
 have hkb:((b-1) / 480)<=546:=by omega
 have hki:((b-1) / 480) / 60<indexN r:=by unfold indexN partsN;omega
 have hsb:((b-1) % 480)<480:=Nat.mod_lt _ (by omega)
 refine change_walkG (f:=f) (r:=r) (st:=F.st) (k:=((b-1) / 480)) (s:=((b-1) % 480)) (m:=(indexN r+((b-1) / 480))) (cf:=cf) (caps:=caps) hcf hsb (by omega) (by omega) ?_
 obtain⟨w0,hw0⟩:∃w0,w0=(w.alloc (.cells #[.pointer (some ⟨x,0,none⟩),.int .i64 (tsz C L f:Int),.int .i64 (tlf C L f),.pointer (some ⟨t,0,none⟩)] 103)):=⟨_,rfl⟩
 unfold ChCG
 rw[<- hw0]
 have hxl:=hx.lt
 have hlt:=h.lt
 have z0:w0.heap.size=w.heap.size+1:=by rw[hw0];simp
 have b0:Below w.heap.size w w0:=by rw[hw0];exact (Below.refl _ _).alloc (Nat.le_refl _) _
 have hv0:w0.heap[w.heap.size]?=some (.cells #[.pointer (some ⟨x,0,none⟩),.int .i64 (tsz C L f:Int),.int .i64 (tlf C L f),.pointer (some ⟨t,0,none⟩)] 103 (0,0)):=by rw[hw0];exact World.alloc_heap_new _ _
 have hx0:Spb w0 x f r F.st:=hx.keep (b0.block x hxl)
 have SS:∀V:World,V.heap[w.heap.size]?=some (.cells #[.pointer (some ⟨x,0,none⟩),.int .i64 (tsz C L f:Int),.int .i64 (tlf C L f),.pointer (some ⟨t,0,none⟩)] 103 (0,0))->Spb V x f r F.st->V.cell? ⟨w.heap.size,0,none⟩=some (.pointer (some ⟨x,0,none⟩))/\V.cell? ⟨w.heap.size,1,none⟩=some (.int .i64 (tsz C L f:Int))/\V.cell? ⟨w.heap.size,2,none⟩=some (.int .i64 (tlf C L f))/\V.cell? ⟨w.heap.size,3,none⟩=some (.pointer (some ⟨t,0,none⟩))/\V.cell? ⟨x,0,none⟩=some (.int .i64 (f:Int))/\V.cell? ⟨x,1,none⟩=some (.int .i64 (r:Int))/\V.cell? ⟨x,2,none⟩=some (.pointer (some ⟨F.st,0,none⟩)):=fun V a b=>⟨by simp[World.cell?,a],by simp[World.cell?,a],by simp[World.cell?,a],by simp[World.cell?,a],b.cell 0,b.cell 1,b.cell 2⟩
 refine Calls.mono (shas_any x t (tsz C L f:Int) (tlf C L f) (b:Int) w0) ?_
 rintro e w1 ⟨rfl,b1⟩
 refine⟨by rw[decide_eq_true (by omega)],fun w2 hw2=>?_⟩
 have s1:=b1.size
 have b12:Below w1.heap.size w1 w2:=by rw[hw2];exact Below.drew1 w1
 have b02:Below w0.heap.size w0 w2:=b1.trans (b12.mono s1)
 have s2:=b02.size
 have hx2:Spb w2 x f r F.st:=hx0.keep (b02.block x hx0.lt)
 have hv2:=(b02.block w.heap.size (by omega)).trans hv0
 refine⟨SS w2 hv2 hx2,groupOf_any b hb.1 (by omega) w2,?_⟩
 refine Calls.mono (countsPage_any (f:Int) r ((b-1) / 480) hr.2 (by omega) w2) ?_
 rintro e w3 ⟨rfl,b3⟩
 have s3:=b3.size
 have hx3:Spb w3 x f r F.st:=hx2.keep (b3.block x hx2.lt)
 have hv3:=(b3.block w.heap.size (by omega)).trans hv2
 refine⟨rfl,SS w3 hv3 hx3,fun w4 hw4=>?_⟩
 have b34:Below w3.heap.size w3 w4:=by rw[hw4];exact Below.drew1 w3
 have s4:=b34.size
 have hx4:Spb w4 x f r F.st:=hx3.keep (b34.block x hx3.lt)
 have hv4:=(b34.block w.heap.size (by omega)).trans hv3
 have b04:Below w0.heap.size w0 w4:=b02.trans ((b3.trans (b34.mono s3)).mono s2)
 have bw4:Below w.heap.size w w4:=b0.trans (b04.mono (by omega))
 refine⟨SS w4 hv4 hx4,?_⟩
 refine Calls.mono ((h.below bw4).pageS (by omega) f r (indexN r+((b-1) / 480)) hr.2 (by omega) (by omega) (by omega)) ?_
 rintro e w5 ⟨Y5,k1,k2,_,k4,k5⟩
 obtain⟨g,cp,rfl,k6,k7,k8,k9⟩:=k2 (hT.pg _ hkp)
 have s5:=k5.size
 have hx5:Spb w5 x f r F.st:=hx4.keep (k5.block x hx4.lt hY)
 have hv5:=(k5.block w.heap.size (by omega) (fun q=>by have:=hlt _ q;omega)).trans hv4
 have bw5:But Y w w5:=(But.of_below bw4 (X:=Y)).trans k5
 have hlen:=k7.len
 have hcell:=k7.cell (32+((b-1) % 480)) (by omega)
 have hbw:0<=((spgA C L f (indexN r+((b-1) / 480))).getD (32+((b-1) % 480)) 0)/\((spgA C L f (indexN r+((b-1) / 480))).getD (32+((b-1) % 480)) 0)<=255:=by
  have h9:((spgA C L f (indexN r+((b-1) / 480))).getD (32+((b-1) % 480)) 0)∈(spgA C L f (indexN r+((b-1) / 480))):=by
   rw[List.getD_eq_getElem?_getD,List.getElem?_eq_getElem (by rw[show ((spgA C L f (indexN r+((b-1) / 480)))).length=512 from hlen];omega)]
   exact List.getElem_mem _
  have:=k8 _ h9
  omega
 refine⟨g,cp,((spgA C L f (indexN r+((b-1) / 480))).getD (32+((b-1) % 480)) 0),rfl,SS w5 hv5 hx5,⟨hcell,hbw⟩,slotOf_any b hb.1 (by omega) w5,?_⟩
 refine Calls.mono (HC w5 bw5) ?_
 rintro e w6 ⟨rfl,k10,hP6⟩
 have s6:=k10.size
 have gY:∀q,q<w4.heap.size->Y5 q->Y q:=fun q a b=>k4 q a b
 have o6:Opn Y5 w6 F (K+1) N C t L Ms n:=k1.keep k10 (fun q hq e1 e2=>by
  exact (hX q e1).1 (gY _ (by have:=hX q e1;omega) e2))
 have bw6:But (fun q=>Y q\/X q) w w6:=(bw5.mono (fun q _ e=>.inl e)).comp k10 (fun q _ e=>.inr e)
 refine⟨cnt,ev,rfl,fun hne=>?_,fun he=>?_⟩
 ·exact⟨K+1,n,Y5,rfl,by omega,by rw[if_neg hne];exact o6,fun q hq e=>gY q (by omega) e,bw6,w5,w6,Y5,hP6,bw5,But.refl _ _,fun q hq e=>gY q (by omega) e⟩
 ·obtain⟨hcb,hmr⟩:=hev he
  have kg:w6.heap[g]?=w5.heap[g]?:=k10.block g k7.lt (fun e=>by have:=hX g e;omega)
  have O6:Own w6 g 512 cp (spgA C L f (indexN r+((b-1) / 480))):=k7.keep kg
  have hc6:=O6.cell (32+((b-1) % 480)) (by omega)
  refine⟨⟨hcb,hc6,O6.frz (32+((b-1) % 480))⟩,fun w7 hw7=>?_⟩
  have b67:=but_set w6 g (32+((b-1) % 480)) (.int .u8 cnt)
  have s67:=b67.size
  have d7:Below (w6.setCell ⟨g,32+((b-1) % 480),none⟩ (.int .u8 cnt)).heap.size (w6.setCell ⟨g,32+((b-1) % 480),none⟩ (.int .u8 cnt)) w7:=by rw[hw7];exact Below.drew1 _
  have s7:=d7.size
  have O7:Own w7 g 512 cp ((spgA C L f (indexN r+((b-1) / 480))).set (32+((b-1) % 480)) cnt):=(O6.set _ _).below d7
  have o7:Opn Y5 w7 F (K+1) N C t L Ms n:=(o6.keep b67 (fun q _ e1 e2=>k9 (e1 ▸ e2))).below d7
  have keep7:∀q,q<w4.heap.size->¬X q->w7.heap[q]?=w5.heap[q]?:=fun q hq hql=>(d7.block q (by omega)).trans ((b67.block q (by omega) (by omega)).trans (k10.block q (by omega) hql))
  have hx7:Spb w7 x f r F.st:=hx5.keep (keep7 x (by omega) (fun e=>(hX x e).2.2 rfl))
  have hv7:=(keep7 w.heap.size (by omega) (fun e=>by have:=hX _ e;omega)).trans hv5
  refine⟨SS w7 hv7 hx7,⟨groupOf_any b hb.1 (by omega) w7,isTaken_any cnt w7,isTaken_any _ w7⟩,?_⟩
  have hbs:Pl.isB ((spgA C L f (indexN r+((b-1) / 480))).set (32+((b-1) % 480)) cnt):=fun z hz=>by
   rcases List.mem_or_eq_of_mem_set hz with q | q
   ·exact k8 z q
   ·omega
  have hYx5:¬Y5 x:=fun e=>hY (gY x (by omega) e)
  obtain⟨L8,hL8⟩:∃L8,L8=if (min cnt 1-min ((spgA C L f (indexN r+((b-1) / 480))).getD (32+((b-1) % 480)) 0) 1)=0 then L else turnL C L f r (tsz C L f) (tlf C L f) (((b-1) / 480) / 60) (((b-1) / 480) % 60) tk tr:=⟨_,rfl⟩
  have H8:Calls Tryz.prog 98 #[.agg #[.pointer (some ⟨x,0,none⟩),.int .i64 (tsz C L f:Int),.int .i64 (tlf C L f),.pointer (some ⟨t,0,none⟩)],.int .i64 ((((b-1) / 480):Nat):Int),.int .i64 (min cnt 1-min ((spgA C L f (indexN r+((b-1) / 480))).getD (32+((b-1) % 480)) 0) 1)] w7 fun e w8=>e=.returned (.int .i64 0)/\∃K8 n8 Y8,(K8<=K+7/\n8<=n+4)/\Opn Y8 w8 F K8 N C t L8 Ms n8/\Gr Y5 Y8 w7/\But Y5 w7 w8:=by
   by_cases hm0:(min cnt 1-min ((spgA C L f (indexN r+((b-1) / 480))).getD (32+((b-1) % 480)) 0) 1)=0
   ·rw[hm0]
    refine Calls.mono turn_zero ?_
    rintro e w8 ⟨rfl,b8⟩
    refine⟨rfl,K+1,n,Y5,by omega,?_,Gr.refl _ _,But.of_below b8⟩
    rw[hL8,if_pos hm0]
    exact o7.below b8
   ·obtain⟨m1,m2,m3,m4⟩:=hmr hm0
    refine Calls.mono (o7.turn (by omega) (by omega) hx7 hYx5 (tsz C L f) (tlf C L f) (by omega) hr.2 hf1 ((b-1) / 480) (by omega) (by omega) hnb (hT.pg _ (by omega)) (hT.pg 0 (by omega)) (min cnt 1-min ((spgA C L f (indexN r+((b-1) / 480))).getD (32+((b-1) % 480)) 0) 1) (by omega) tk tr m1 m2 m3 m4) ?_
    rintro e w8 ⟨K8,n8,Y8,rfl,q1,q2,q3,q4⟩
    refine⟨rfl,K8,n8,Y8,by omega,?_,q3,q4⟩
    rw[hL8,if_neg hm0]
    exact q2
  refine Calls.mono H8 ?_
  rintro e w8 ⟨rfl,K8,n8,Y8,⟨q1,q1'⟩,q2,q3,q4⟩
  have s8:=q4.size
  have hx8:Spb w8 x f r F.st:=hx7.keep (q4.block x hx7.lt hYx5)
  have nv5:¬Y5 w.heap.size:=fun e=>by have:=hlt _ (gY _ (by omega) e);omega
  have hv8:=(q4.block w.heap.size (by omega) nv5).trans hv7
  refine⟨rfl,SS w8 hv8 hx8,fun w9 hw9=>?_⟩
  have b89:Below w8.heap.size w8 w9:=by rw[hw9];exact Below.drew1 w8
  have s9:=b89.size
  have hx9:Spb w9 x f r F.st:=hx8.keep (b89.block x hx8.lt)
  have hv9:=(b89.block w.heap.size (by omega)).trans hv8
  refine⟨SS w9 hv9 hx9,?_⟩
  have gY8:∀q,q<w4.heap.size->Y8 q->Y q:=fun q a e=>gY q a (q3 q (by omega) e)
  have gl7:=O7.lt
  have O9:Own w9 g 512 cp ((spgA C L f (indexN r+((b-1) / 480))).set (32+((b-1) % 480)) cnt):=(O7.keep (q4.block g gl7 k9)).below b89
  have nG8:¬Y8 g:=fun e=>k9 (q3 g gl7 e)
  rw[show (f:Int)+(((indexN r+((b-1) / 480)):Nat):Int)=((f+(indexN r+((b-1) / 480)):Nat):Int) by omega]
  refine Calls.mono ((q2.below b89).write (by omega) (by omega) (f+(indexN r+((b-1) / 480))) (by omega) (by omega) (some ⟨g,0,none⟩) cp _ (O9.rdn hbs nG8)) ?_
  rintro e w10 ⟨Y10,rfl,r1,r2,r3⟩
  have hYx8:¬Y8 x:=fun e=>hY (gY8 x (by omega) e)
  have nv8:¬Y8 w.heap.size:=fun e=>by have:=hlt _ (gY8 _ (by omega) e);omega
  have hx10:Spb w10 x f r F.st:=hx9.keep (r3.block x hx9.lt hYx8)
  have hv10:=(r3.block w.heap.size (by omega) nv8).trans hv9
  have b610:But (fun q=>Y5 q\/w.heap.size<=q) w6 w10:=by
   have a1:But (fun q=>Y5 q\/w.heap.size<=q) w6 (w6.setCell ⟨g,32+((b-1) % 480),none⟩ (.int .u8 cnt)):=b67.mono (fun q _ e=>.inr (by omega))
   have a2:=a1.comp (But.of_below d7 (X:=fun _=>False)) (fun _ _ e=>e.elim)
   have a3:=a2.comp q4 (fun q _ e=>.inl e)
   have a4:=a3.comp (But.of_below b89 (X:=fun _=>False)) (fun _ _ e=>e.elim)
   exact a4.comp r3 (fun q hq e=>.inl (q3 q (by omega) e))
  refine⟨0,rfl,SS w10 hv10 hx10,K8+1,n8+2,Y10,by rw[he],by omega,?_,fun q hq e=>gY8 q (by omega) (r2 q (by omega) e),?_,w5,w6,_,hP6,bw5,b610,?_⟩
  ·rw[if_pos he]
   unfold chgL
   rw[<- hL8]
   exact r1
  ·exact bw6.comp b610 (fun q hq e=>.inl (by
    rcases e with e | e
    ·exact gY q (by omega) e
    ·omega))
  ·intro q hq e
   rcases e with e | e
   ·exact gY q (by omega) e
   ·omega
theorem Opn.change55 (h:Opn Y w F K N C t L Ms n) (hK:K+10<4611686018427387904) (hn:n+6<=1073741823) (hx:Spb w x f r F.st) (hY:¬Y x) (hT:TbS C L f r F.nb) (hnb:F.nb<=4611686018427387904) (b:Nat) (hb:1<=b/\b<=tsz C L f) (cnt ev:Int) (P6:World->World->Prop)
  (HC:∀w5,But Y w w5->Calls Tryz.prog 55 #[.int .i64 ((spgA C L f (indexN r+((b-1) / 480))).getD (32+((b-1) % 480)) 0)] w5 fun e w6=>e=.returned (.tuple #[.int .i64 cnt,.int .i64 ev])/\But (fun _=>False) w5 w6/\P6 w5 w6) (tk tr:Nat) (hev:ev=0->(0<=cnt/\cnt<=255)/\(¬(min cnt 1-min ((spgA C L f (indexN r+((b-1) / 480))).getD (32+((b-1) % 480)) 0) 1)=0->(tk:Int)=tknZ (spgA C L f (((b-1) / 480) / 60)) (((b-1) / 480) % 60)+(min cnt 1-min ((spgA C L f (indexN r+((b-1) / 480))).getD (32+((b-1) % 480)) 0) 1)/\(tr:Int)=max (trnZ (spgA C L f (((b-1) / 480) / 60)) (((b-1) / 480) % 60)) (trnZ (cpg true r (((b-1) / 480) / 60) (C (f+((b-1) / 480) / 60))) (((b-1) / 480) % 60))+1/\tk<=65535/\tr<=281474976710655)) :
  Calls Tryz.prog 54 #[.agg #[.pointer (some ⟨x,0,none⟩),.int .i64 (tsz C L f:Int),.int .i64 (tlf C L f),.pointer (some ⟨t,0,none⟩)],.int .i64 (b:Int),.func (.func 55) #[] #[]] w fun e w'=>∃K' n' Y',e=.returned (.int .i64 ev)/\(K'<=K+8/\n'<=n+6)/\Opn Y' w' F K' N C t (if ev=0 then chgL C L f r b cnt tk tr else L) Ms n'/\Gr Y Y' w/\But (fun q=>Y q) w w'/\(∃w5 w6 Y6,P6 w5 w6/\But Y w w5/\But Y6 w6 w'/\Gr Y Y6 w):=by
 refine Calls.mono (h.changeG hK hn hx hY hT hnb b hb 55 #[] (fun _ _=>by kernel_rfl) (fun _=>False) (fun _ e=>e.elim) cnt ev P6 HC tk tr hev) ?_
 rintro e w' ⟨K',n',Y',q1,q2,q3,q4,q5,q6⟩
 exact⟨K',n',Y',q1,q2,q3,q4,q5.mono (fun q _ e=>e.elim id False.elim),q6⟩
theorem Opn.change56 (h:Opn Y w F K N C t L Ms n) (hK:K+10<4611686018427387904) (hn:n+6<=1073741823) (hx:Spb w x f r F.st) (hY:¬Y x) (hT:TbS C L f r F.nb) (hnb:F.nb<=4611686018427387904) (b:Nat) (hb:1<=b/\b<=tsz C L f) (cnt ev:Int) (P6:World->World->Prop)
  (HC:∀w5,But Y w w5->Calls Tryz.prog 56 #[.int .i64 ((spgA C L f (indexN r+((b-1) / 480))).getD (32+((b-1) % 480)) 0)] w5 fun e w6=>e=.returned (.tuple #[.int .i64 cnt,.int .i64 ev])/\But (fun _=>False) w5 w6/\P6 w5 w6) (tk tr:Nat) (hev:ev=0->(0<=cnt/\cnt<=255)/\(¬(min cnt 1-min ((spgA C L f (indexN r+((b-1) / 480))).getD (32+((b-1) % 480)) 0) 1)=0->(tk:Int)=tknZ (spgA C L f (((b-1) / 480) / 60)) (((b-1) / 480) % 60)+(min cnt 1-min ((spgA C L f (indexN r+((b-1) / 480))).getD (32+((b-1) % 480)) 0) 1)/\(tr:Int)=max (trnZ (spgA C L f (((b-1) / 480) / 60)) (((b-1) / 480) % 60)) (trnZ (cpg true r (((b-1) / 480) / 60) (C (f+((b-1) / 480) / 60))) (((b-1) / 480) % 60))+1/\tk<=65535/\tr<=281474976710655)) :
  Calls Tryz.prog 54 #[.agg #[.pointer (some ⟨x,0,none⟩),.int .i64 (tsz C L f:Int),.int .i64 (tlf C L f),.pointer (some ⟨t,0,none⟩)],.int .i64 (b:Int),.func (.func 56) #[] #[]] w fun e w'=>∃K' n' Y',e=.returned (.int .i64 ev)/\(K'<=K+8/\n'<=n+6)/\Opn Y' w' F K' N C t (if ev=0 then chgL C L f r b cnt tk tr else L) Ms n'/\Gr Y Y' w/\But (fun q=>Y q) w w'/\(∃w5 w6 Y6,P6 w5 w6/\But Y w w5/\But Y6 w6 w'/\Gr Y Y6 w):=by
 refine Calls.mono (h.changeG hK hn hx hY hT hnb b hb 56 #[] (fun _ _=>by kernel_rfl) (fun _=>False) (fun _ e=>e.elim) cnt ev P6 HC tk tr hev) ?_
 rintro e w' ⟨K',n',Y',q1,q2,q3,q4,q5,q6⟩
 exact⟨K',n',Y',q1,q2,q3,q4,q5.mono (fun q _ e=>e.elim id False.elim),q6⟩
theorem Opn.change57 (h:Opn Y w F K N C t L Ms n) (hK:K+10<4611686018427387904) (hn:n+6<=1073741823) (hx:Spb w x f r F.st) (hY:¬Y x) (hT:TbS C L f r F.nb) (hnb:F.nb<=4611686018427387904) (b:Nat) (hb:1<=b/\b<=tsz C L f) (lv:Nat) (hlv:¬Y lv/\lv<w.heap.size/\lv≠x) (cnt ev:Int) (P6:World->World->Prop)
  (HC:∀w5,But Y w w5->Calls Tryz.prog 57 #[.int .i64 ((spgA C L f (indexN r+((b-1) / 480))).getD (32+((b-1) % 480)) 0),.pointer (some ⟨lv,0,none⟩)] w5 fun e w6=>e=.returned (.tuple #[.int .i64 cnt,.int .i64 ev])/\But (fun q=>q=lv) w5 w6/\P6 w5 w6) (tk tr:Nat) (hev:ev=0->(0<=cnt/\cnt<=255)/\(¬(min cnt 1-min ((spgA C L f (indexN r+((b-1) / 480))).getD (32+((b-1) % 480)) 0) 1)=0->(tk:Int)=tknZ (spgA C L f (((b-1) / 480) / 60)) (((b-1) / 480) % 60)+(min cnt 1-min ((spgA C L f (indexN r+((b-1) / 480))).getD (32+((b-1) % 480)) 0) 1)/\(tr:Int)=max (trnZ (spgA C L f (((b-1) / 480) / 60)) (((b-1) / 480) % 60)) (trnZ (cpg true r (((b-1) / 480) / 60) (C (f+((b-1) / 480) / 60))) (((b-1) / 480) % 60))+1/\tk<=65535/\tr<=281474976710655)) :
  Calls Tryz.prog 54 #[.agg #[.pointer (some ⟨x,0,none⟩),.int .i64 (tsz C L f:Int),.int .i64 (tlf C L f),.pointer (some ⟨t,0,none⟩)],.int .i64 (b:Int),.func (.func 57) #[] #[.pointer (some ⟨lv,0,none⟩)]] w fun e w'=>∃K' n' Y',e=.returned (.int .i64 ev)/\(K'<=K+8/\n'<=n+6)/\Opn Y' w' F K' N C t (if ev=0 then chgL C L f r b cnt tk tr else L) Ms n'/\Gr Y Y' w/\But (fun q=>Y q\/q=lv) w w'/\(∃w5 w6 Y6,P6 w5 w6/\But Y w w5/\But Y6 w6 w'/\Gr Y Y6 w):=by
 refine Calls.mono (h.changeG hK hn hx hY hT hnb b hb 57 #[.pointer (some ⟨lv,0,none⟩)] (fun _ _=>by kernel_rfl) (fun q=>q=lv) (fun q e=>e ▸ hlv) cnt ev P6 HC tk tr hev) ?_
 rintro e w' ⟨K',n',Y',q1,q2,q3,q4,q5,q6⟩
 exact⟨K',n',Y',q1,q2,q3,q4,q5,q6⟩
open Go.RowKit Go.Deep
attribute [local go_sem] Oper.semAt_some
theorem clo55_any(was:Int)(w:World):Calls Tryz.prog 55 #[.int .i64 was] w fun e w'=>e=.returned (.tuple #[.int .i64 1,.int .i64 0])/\w'=w:=by
 go_enter Tryz.func55,Tryz.ntmps55
 go_wp2
 exact bodyPost_ret (results_tmp2 rfl _ _ _) rfl ⟨rfl,rfl⟩
theorem clo56_any(was:Int)(h0:0<=was)(h1:was<=255)(w:World):Calls Tryz.prog 56 #[.int .i64 was] w fun e w'=>e=.returned (.tuple #[.int .i64 (if was=0\/250<=was then 0 else was+1),.int .i64 (if was=0 then 62 else if 250<=was then 63 else 0)])/\w'=w:=by
 by_cases hz:was=0
 ·subst hz
  rw[if_pos (.inl rfl),if_pos rfl]
  go_enter Tryz.func56,Tryz.ntmps56
  go_wp2
  exact bodyPost_ret (results_tmp2 rfl _ _ _) rfl ⟨rfl,rfl⟩
 ·by_cases hm:250<=was
  ·rw[if_pos (.inr hm),if_neg hz,if_pos hm]
   go_enter Tryz.func56,Tryz.ntmps56
   go_wp2
   exact bodyPost_ret (results_tmp2 rfl _ _ _) rfl ⟨rfl,rfl⟩
  ·rw[if_neg (by omega),if_neg hz,if_neg hm]
   have hw:IntKind.i64.wrap (was+1)=was+1:=by rw[IntKind.wrap_i64];omega
   have hm2:was<250:=by omega
   go_enter Tryz.func56,Tryz.ntmps56
   go_wp2
   exact bodyPost_ret (results_tmp2 rfl _ _ _) rfl ⟨rfl,rfl⟩
theorem change_none{b:Int}(fv:Value)(hb:¬(1<=b/\b<=(sz:Int))):Calls Tryz.prog 54 #[.agg #[.pointer (some ⟨x,0,none⟩),.int .i64 (sz:Int),.int .i64 lf,.pointer (some ⟨t,0,none⟩)],.int .i64 b,fv] w fun e w'=>e=.returned (.int .i64 61)/\Below w.heap.size w w':=by
 have H1:=hid (shas_any x t (sz:Int) lf b (w.alloc (.cells #[.pointer (some ⟨x,0,none⟩),.int .i64 (sz:Int),.int .i64 lf,.pointer (some ⟨t,0,none⟩)] 103)))
 have FIN:Hid (∀w1,Below (w.alloc (.cells #[.pointer (some ⟨x,0,none⟩),.int .i64 (sz:Int),.int .i64 lf,.pointer (some ⟨t,0,none⟩)] 103)).heap.size (w.alloc (.cells #[.pointer (some ⟨x,0,none⟩),.int .i64 (sz:Int),.int .i64 lf,.pointer (some ⟨t,0,none⟩)] 103)) w1->Below w.heap.size w w1):=fun w1 b1=>((Below.refl _ _).alloc (Nat.le_refl _) _).trans (b1.mono (by simp))
 have hd:decide (1<=b/\b<=(sz:Int))=false:=decide_eq_false hb
 rw[hd]at H1
 clear hb hd
 go_enter Tryz.func54,Tryz.ntmps54
 go_wp2_with fail
 refine Calls.mono H1.out ?_
 rintro e w1 ⟨rfl,b1⟩
 have FF:=hid (FIN.out w1 b1)
 clear b1 FIN H1
 go_wp2
 first | exact FF.out | exact bodyPost_ret (results_tmp rfl _ _ _) rfl ⟨rfl,FF.out⟩
open Go.RowKit Go.Deep
attribute [local go_sem] Oper.semAt_some
theorem getD_bd(hb:Pl.isB zs)(i:Nat):0<=zs.getD i 0/\zs.getD i 0<=255:=by
 rw[List.getD_eq_getElem?_getD]
 cases hq:zs[i]? with
 | none=>simp
 | some z=>
  have:=hb z (List.mem_of_getElem? hq)
  simp only[Option.getD_some]
  omega
theorem Opn.refT(h:Opn Y w F K N C t L Ms n)(hsp:Spb w x f r F.st)(hx:¬Y x)(hK:K+13000<4611686018427387904)(hn:n+6<=1073741823)(hT:TbS C L f r F.nb)(hnb:F.nb<=4611686018427387904)(b:Nat)(hb:1<=b/\b<=tsz C L f)(hB:Pl.isB (spgA C L f (indexN r+((b-1) / 480)))) :
  Calls Tryz.prog 25 #[.pointer (some ⟨x,0,none⟩),.pointer (some ⟨t,0,none⟩),.int .i64 (b:Int)] w fun e w'=>∃K' n' Y',e=.returned (.int .i64 (if ((spgA C L f (indexN r+((b-1) / 480))).getD (32+((b-1) % 480)) 0)=0 then (62:Int) else if 250<=((spgA C L f (indexN r+((b-1) / 480))).getD (32+((b-1) % 480)) 0) then 63 else 0))/\(K'<=K+9/\n'<=n+6)/\Opn Y' w' F K' N C t (if (if ((spgA C L f (indexN r+((b-1) / 480))).getD (32+((b-1) % 480)) 0)=0 then (62:Int) else if 250<=((spgA C L f (indexN r+((b-1) / 480))).getD (32+((b-1) % 480)) 0) then 63 else 0)=0 then chgL C L f r b (if ((spgA C L f (indexN r+((b-1) / 480))).getD (32+((b-1) % 480)) 0)=0\/250<=((spgA C L f (indexN r+((b-1) / 480))).getD (32+((b-1) % 480)) 0) then 0 else ((spgA C L f (indexN r+((b-1) / 480))).getD (32+((b-1) % 480)) 0)+1) 0 0 else L) Ms n'/\Gr Y Y' w/\But Y w w':=by
 refine poz fun PO hPO=>?_
 have HLK:=hid (h.lookT hsp hx hK hT)
 have hxl:=hsp.lt
 have hbd:=getD_bd hB (32+((b-1) % 480))
 have HCF:Hid (∀Y' w',Opn Y' w' F (K+1) N C t L Ms n->Gr Y Y' w->But Y w w'->Calls Tryz.prog 54 #[.agg #[.pointer (some ⟨x,0,none⟩),.int .i64 (tsz C L f:Int),.int .i64 (tlf C L f),.pointer (some ⟨t,0,none⟩)],.int .i64 (b:Int),.func (.func 56) #[] #[]] (w'.alloc (.cells #[.pointer (some ⟨x,0,none⟩),.int .i64 (tsz C L f:Int),.int .i64 (tlf C L f),.pointer (some ⟨t,0,none⟩)] 103)) fun e w''=>∃v,e=.returned (.int .i64 v)/\PO (.returned (.int .i64 v)) w''):=fun Y' w' k1 k2 k3=>by
  have bA:Below w'.heap.size w' (w'.alloc (.cells #[.pointer (some ⟨x,0,none⟩),.int .i64 (tsz C L f:Int),.int .i64 (tlf C L f),.pointer (some ⟨t,0,none⟩)] 103)):=(Below.refl _ _).alloc (Nat.le_refl _) _
  refine Calls.mono ((k1.below bA).change56 (by omega) hn (hsp.keep ((bA.block x (Nat.lt_of_lt_of_le hxl k3.size)).trans (k3.block x hxl hx))) (fun q=>hx (k2 x hxl q)) hT hnb b hb (if ((spgA C L f (indexN r+((b-1) / 480))).getD (32+((b-1) % 480)) 0)=0\/250<=((spgA C L f (indexN r+((b-1) / 480))).getD (32+((b-1) % 480)) 0) then 0 else ((spgA C L f (indexN r+((b-1) / 480))).getD (32+((b-1) % 480)) 0)+1) (if ((spgA C L f (indexN r+((b-1) / 480))).getD (32+((b-1) % 480)) 0)=0 then (62:Int) else if 250<=((spgA C L f (indexN r+((b-1) / 480))).getD (32+((b-1) % 480)) 0) then 63 else 0) (fun _ _=>True) (fun w5 _=>?_) 0 0 (fun he=>?_)) ?_
  ·refine Calls.mono (clo56_any _ hbd.1 hbd.2 w5) ?_
   rintro e w6 ⟨rfl,rfl⟩
   exact⟨rfl,But.refl _ _,trivial⟩
  ·generalize ((spgA C L f (indexN r+((b-1) / 480))).getD (32+((b-1) % 480)) 0)=was at *
   have hw:¬was=0/\¬250<=was:=by
    refine⟨fun e=>?_,fun e=>?_⟩
    ·rw[if_pos e]at he
     omega
    ·by_cases e0:was=0
     ·rw[if_pos e0]at he
      omega
     ·rw[if_neg e0,if_pos e]at he
      omega
   rw[if_neg (by omega)]
   exact⟨by omega,fun hm=>absurd (by omega) hm⟩
  ·rintro e w'' ⟨K',n',Y'',rfl,q1,q2,q3,q4,_⟩
   refine⟨_,rfl,?_⟩
   rw[hPO]
   have s3:=k3.size
   have sA:=bA.size
   refine⟨K',n',Y'',rfl,by omega,q2,fun q hq e=>k2 q hq (q3 q (by omega) e),?_⟩
   exact (k3.comp (But.of_below bA (X:=fun _=>False)) (fun _ _ q=>q.elim)).comp q4 (fun q hq e=>k2 q hq e)
 clear hPO h hsp hx hT hxl hK hB hbd hb hn hnb
 generalize (tsz C L f:Int)=sv at *
 generalize tlf C L f=lv at *
 go_enter Tryz.func25,Tryz.ntmps25
 go_wp2_with fail
 refine Calls.mono HLK.out ?_
 rintro e w1 ⟨Y1,rfl,k1,k2,k3⟩
 have HC:=hid (HCF.out Y1 w1 k1 k2 k3)
 clear k1 k2 k3 HCF HLK
 go_wp2_with fail
 refine Calls.mono HC.out ?_
 rintro e w2 ⟨v,rfl,hp⟩
 have HP:=hid hp
 clear hp HC
 go_wp2
 exact HP.out
open Go.RowKit Go.Deep
attribute [local go_sem] Oper.semAt_some
theorem Opn.growT(h:Opn Y w F K N C t L Ms n)(hsp:Spb w x f r F.st)(hx:¬Y x)(hK:K+13000<4611686018427387904)(hn:n+6<=1073741823)(hT:TbS C L f r F.nb)(c:Nat)(hc:(tsz C L f<c/\c<=r))(hB:Pl.isB (spgA C L f 0)) :
  Calls Tryz.prog 27 #[.pointer (some ⟨x,0,none⟩),.pointer (some ⟨t,0,none⟩),.int .i64 (c:Int)] w fun e w'=>∃Y',e=.returned (.int .i64 0)/\Opn Y' w' F (K+3) N C t (putL L f (splice (spgA C L f 0) 21 (sheadZ c (tlf C L f).toNat))) Ms (n+2)/\Gr Y Y' w/\But Y w w':=by
 refine poz fun PO hPO=>?_
 have HLK:=hid (h.lookT hsp hx hK hT)
 have hxl:=hsp.lt
 have hlb:=lfOf_bd hB
 have hlf:tlf C L f=(((tlf C L f).toNat:Nat):Int):=by unfold tlf;omega
 have hpl:=pagesN_lo hT.hr.1
 have hf2:=hT.f2
 have hr:=hT.hr
 have HCF:Hid (∀Y' w',Opn Y' w' F (K+1) N C t L Ms n->Gr Y Y' w->But Y w w'->(w'.alloc (.cells #[.pointer (some ⟨x,0,none⟩),.int .i64 (tsz C L f:Int),.int .i64 (tlf C L f),.pointer (some ⟨t,0,none⟩)] 103)).cell? ⟨x,1,none⟩=some (.int .i64 (r:Int))/\Calls Tryz.prog 58 #[.agg #[.pointer (some ⟨x,0,none⟩),.int .i64 (tsz C L f:Int),.int .i64 (tlf C L f),.pointer (some ⟨t,0,none⟩)],.int .i64 (c:Int)] (w'.alloc (.cells #[.pointer (some ⟨x,0,none⟩),.int .i64 (tsz C L f:Int),.int .i64 (tlf C L f),.pointer (some ⟨t,0,none⟩)] 103)) fun e w''=>∃v,e=.returned (.int .i64 v)/\PO (.returned (.int .i64 v)) w''):=fun Y' w' k1 k2 k3=>by
  have bA:Below w'.heap.size w' (w'.alloc (.cells #[.pointer (some ⟨x,0,none⟩),.int .i64 (tsz C L f:Int),.int .i64 (tlf C L f),.pointer (some ⟨t,0,none⟩)] 103)):=(Below.refl _ _).alloc (Nat.le_refl _) _
  have hxA:Spb (w'.alloc (.cells #[.pointer (some ⟨x,0,none⟩),.int .i64 (tsz C L f:Int),.int .i64 (tlf C L f),.pointer (some ⟨t,0,none⟩)] 103)) x f r F.st:=hsp.keep ((bA.block x (Nat.lt_of_lt_of_le hxl k3.size)).trans (k3.block x hxl hx))
  refine⟨hxA.cell 1,?_⟩
  rw[hlf]
  rw[hlf]at bA hxA
  refine Calls.mono ((k1.below bA).resize (by omega) (by omega) hxA (fun q=>hx (k2 x hxl q)) (tsz C L f:Int) c (tlf C L f).toNat (by omega) (by unfold tlf;omega) hr.2 hT.f1 (by omega) (hT.pg 0 (by omega))) ?_
  rintro e w'' ⟨Y'',rfl,q2,q3,q4⟩
  refine⟨_,rfl,?_⟩
  rw[hPO]
  have s3:=k3.size
  have sA:=bA.size
  refine⟨Y'',rfl,q2,fun q hq e=>k2 q hq (q3 q (by omega) e),?_⟩
  exact (k3.comp (But.of_below bA (X:=fun _=>False)) (fun _ _ q=>q.elim)).comp q4 (fun q hq e=>k2 q hq e)
 have hc1:¬(c:Int)<=(tsz C L f:Int):=by omega
 have hc2:¬(r:Int)<(c:Int):=by omega
 clear hPO h hsp hx hT hxl hK hB hn hlf hlb hf2 hr hpl hc
 generalize (tsz C L f:Int)=sv at *
 generalize tlf C L f=lv at *
 go_enter Tryz.func27,Tryz.ntmps27
 go_wp2_with fail
 refine Calls.mono HLK.out ?_
 rintro e w1 ⟨Y1,rfl,k1,k2,k3⟩
 obtain⟨hcx,hcc⟩:=HCF.out Y1 w1 k1 k2 k3
 have HC:=hid hcc
 clear k1 k2 k3 HCF HLK hcc
 go_wp2_with fail
 refine Calls.mono HC.out ?_
 rintro e w2 ⟨v,rfl,hp⟩
 have HP:=hid hp
 clear hp HC
 go_wp2
 exact HP.out
open Go.RowKit Go.Deep
attribute [local go_sem] Oper.semAt_some
theorem clo57_zero(lv:Nat)(w:World):Calls Tryz.prog 57 #[.int .i64 0,.pointer (some ⟨lv,0,none⟩)] w fun e w'=>e=.returned (.tuple #[.int .i64 0,.int .i64 62])/\w'=w:=by
 go_enter Tryz.func57,Tryz.ntmps57
 go_wp2
 exact bodyPost_ret (results_tmp2 rfl _ _ _) rfl ⟨rfl,rfl⟩
theorem clo57_some(was v0:Int)(h0:1<=was)(h1:was<=255)(lv:Nat)(w:World)(hc:w.heap[lv]?=some (.cells #[.int .i64 v0] 3 (0,0))):Calls Tryz.prog 57 #[.int .i64 was,.pointer (some ⟨lv,0,none⟩)] w fun e w'=>e=.returned (.tuple #[.int .i64 (was-1),.int .i64 0])/\w'=w.setCell ⟨lv,0,none⟩ (.int .i64 (was-1)):=by
 have c0:w.cell? ⟨lv,0,none⟩=some (.int .i64 v0):=by simp[World.cell?,hc]
 have f0:w.frozen? ⟨lv,0,none⟩=false:=by simp[World.frozen?,hc]
 have x4:=set_heap (v:=.int .i64 (was-1)) hc
 have c1:(w.setCell ⟨lv,0,none⟩ (.int .i64 (was-1))).cell? ⟨lv,0,none⟩=some (.int .i64 (was-1)):=by simp only[World.cell?,x4];rfl
 have hz:¬was=0:=by omega
 have hw:IntKind.i64.wrap (was-1)=was-1:=by rw[IntKind.wrap_i64];omega
 clear hc x4
 go_enter Tryz.func57,Tryz.ntmps57
 go_wp2
 exact bodyPost_ret (results_tmp2 rfl _ _ _) rfl ⟨rfl,rfl⟩
end Go.Proofs.YtlefjidbpjkhlaaGreat
