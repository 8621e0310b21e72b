import Derived.Test.YtlefjidbpjkhlaaGreatK15
import Derived.Deep.RegionHeld3
import Derived.Shelf.Bytes.SlEqualAll
set_option maxRecDepth 100000
set_option maxHeartbeats 16000000
namespace Go.Proofs.YtlefjidbpjkhlaaGreat
variable {w w0 w1:World}
variable {ys zs:List Int}
variable {Z:Nat->Prop}
variable {K b bl c f g1 j k l p q:Nat}
variable {d:Pd}
variable {s:Js}
open Go.RowKit
theorem saysWhose_any{g cap:Nat}(ho:Own w g 512 cap zs)(hb:Pl.isB zs):Calls Tryz.prog 201 #[.slice (some ⟨g,0,none⟩) 512 cap] w fun e w'=>e=.returned (.bool (decide (zs.getD 0 0=2\/zs.getD 0 0=1)))/\w'=w:=by
 have c0:=ho.cell 0 (by omega)
 have hk:=Pl.isB_getD hb 0
 have hk2:zs.getD 0 0=zs[0]?.getD 0:=by simp
 rw[<- hk2]at hk
 generalize zs.getD 0 0=k at *
 have hw:IntKind.i64.wrap k=k:=by rw[IntKind.wrap_i64];omega
 clear ho hb hk2
 by_cases h2:k=2
 ·subst h2
  go_enter Tryz.func201,Tryz.ntmps201
  go_wp2
  go_ret
  exact⟨by simp,rfl⟩
 ·by_cases h1:k=1
  ·subst h1
   go_enter Tryz.func201,Tryz.ntmps201
   go_wp2
   go_ret
   exact⟨by simp,rfl⟩
  ·go_enter Tryz.func201,Tryz.ntmps201
   go_wp2
   go_ret
   exact⟨by simp[h1,h2],rfl⟩
theorem okW_eight:okW [8]:=by
 intro x hx
 simp at hx
 subst hx
 rfl
def toCome (life:Nat) (zs:List Int):Bool:=decide (Pl.num ((zs.drop 3).take 8)<=9223372036854775807) && (decide (life≠0) && decide ((life:Int)<Pl.num ((zs.drop 3).take 8)))
theorem isToCome_any{room nb fr:Nat}(h:Jq Z w j c p room nb K fr bl d s){g cap:Nat}(ho:Own w g 512 cap zs)(hb:Pl.isB zs):Calls Tryz.prog 202 #[.pointer (some ⟨j,0,none⟩),.slice (some ⟨g,0,none⟩) 512 cap] w fun e w'=>e=.returned (.bool (toCome s.life zs))/\Below w.heap.size w w':=by
 obtain⟨mv,hJ,hZj⟩:=h.cells
 have hcap:=ho.cap
 obtain⟨w1,hw1⟩:∃w1,w1=w.alloc (.cells #[.int .i64 8] 3):=⟨_,rfl⟩
 have b1:Below w.heap.size w w1:=by rw[hw1];exact (Below.refl _ _).alloc (Nat.le_refl _) _
 have z1:w1.heap.size=w.heap.size+1:=by rw[hw1];simp
 have hR:Rd w1.heap.size w1 (some ⟨g,3,none⟩) 8 ((zs.drop 3).take 8):=by
  have r1:=rd_part (ho.rd hb) 3 8 (by omega) ho.lt
  rw[Nat.zero_add]at r1
  exact (r1.below b1).mono (by omega)
 have hRI:RdI w1.heap.size w1 (some ⟨w.heap.size,0,none⟩) 1 [8]:=⟨rfl,.inr ⟨w.heap.size,0,rfl,by omega,fun t ht=>by
  rw[hw1]
  rcases t with _ | t
  ·exact cell_new rfl 0 _ rfl
  ·omega⟩⟩
 obtain⟨v0,hv0⟩:∃v0,v0=Pl.num ((zs.drop 3).take 8):=⟨_,rfl⟩
 have hvk:valK ((zs.drop 3).take 8) [8] 0=v0:=by rw[hv0];simp[valK,sumW,List.take_take]
 have hJ1:=(h.below b1).cells
 have j3:=hJ.cell 3
 simp at j3
 have hjl:=hJ.lt
 obtain⟨lv,hlv⟩:∃lv:Int,lv=(s.life:Int):=⟨_,rfl⟩
 have htc:toCome s.life zs=(decide (v0<=9223372036854775807) && (decide (lv≠0) && decide (lv<v0))):=by
  unfold toCome
  rw[<- hv0,hlv]
  congr 2
  simp
 rw[htc]
 rw[<- hlv]at j3
 have y1:¬cap=3:=by omega
 have x1:(11:Int)<=(cap:Int):=by omega
 have B1:=hid b1
 by_cases hv:v0<=9223372036854775807
 ·have HU:=hid (Unpack_ok (some ⟨g,3,none⟩) (some ⟨w.heap.size,0,none⟩) 8 (cap-3) 1 1 ((zs.drop 3).take 8) [8] w1 (by omega) (by omega) hR hRI okW_eight rfl (fun k hk=>by
   rcases k with _ | k
   ·rw[hvk];exact hv
   ·omega))
  rw[show vals ((zs.drop 3).take 8) [8] 1=[v0] by simp[vals,hvk]]at HU
  have HJ:=hid hJ
  have hbl:decide (v0<=9223372036854775807)=true:=decide_eq_true hv
  rw[hbl]
  clear hbl hR hRI hvk hv0 htc hlv hJ1 hJ h ho hb b1 hv z1
  by_cases hlz:lv=0
  ·subst hlz
   go_enter Tryz.func202,Tryz.ntmps202
   go_wp2_with fail
   rw[<- hw1]
   refine Calls.mono HU.out ?_
   rintro e w2 ⟨g2,rfl,hg2,hb2,b2⟩
   have B2:=hid (B1.out.trans (b2.mono B1.out.size))
   have k3:=(B2.out.cell (p:=⟨j,3,none⟩) hjl).trans j3
   clear b2 hb2 hg2 HU hw1 B1 j3
   go_wp2_with fail
   go_region
   all_goals
    go_wp2
    go_ret
    exact⟨by simp,by simpa using B2.out.drew⟩
  ·have hne:(lv != 0)=true:=by simpa using hlz
   by_cases hlt:lv<v0
   ·go_enter Tryz.func202,Tryz.ntmps202
    go_wp2_with fail
    rw[<- hw1]
    refine Calls.mono HU.out ?_
    rintro e w2 ⟨g2,rfl,hg2,hb2,b2⟩
    have B2:=hid (B1.out.trans (b2.mono B1.out.size))
    have k3:=(B2.out.cell (p:=⟨j,3,none⟩) hjl).trans j3
    have c0:=hb2.cell 0 (by simp)
    simp at c0
    clear b2 hb2 hg2 HU hw1 B1 j3
    go_wp2_with fail
    go_region_held3 (fun w'=>w'.cell? ⟨j,3,none⟩=some (.int .i64 lv)/\w'.cell? ⟨g2,0,none⟩=some (.int .i64 v0)) (first | (exact⟨by assumption,by assumption⟩) | go_keep) (fail)
    go_wp2
    go_ret
    exact⟨by simp[hlz,hlt],by simpa using B2.out.drew⟩
   ·go_enter Tryz.func202,Tryz.ntmps202
    go_wp2_with fail
    rw[<- hw1]
    refine Calls.mono HU.out ?_
    rintro e w2 ⟨g2,rfl,hg2,hb2,b2⟩
    have B2:=hid (B1.out.trans (b2.mono B1.out.size))
    have k3:=(B2.out.cell (p:=⟨j,3,none⟩) hjl).trans j3
    have c0:=hb2.cell 0 (by simp)
    simp at c0
    clear b2 hb2 hg2 HU hw1 B1 j3
    go_wp2_with fail
    go_region_held3 (fun w'=>w'.cell? ⟨j,3,none⟩=some (.int .i64 lv)/\w'.cell? ⟨g2,0,none⟩=some (.int .i64 v0)) (first | (exact⟨by assumption,by assumption⟩) | go_keep) (fail)
    go_wp2
    go_ret
    exact⟨by simp[hlz],by simpa using B2.out.drew⟩
 ·have HU:=hid (Unpack_value (some ⟨g,3,none⟩) (some ⟨w.heap.size,0,none⟩) 8 (cap-3) 1 1 ((zs.drop 3).take 8) [8] w1 (by omega) (by omega) hR hRI okW_eight rfl ⟨0,by omega,by rw[hvk];omega⟩)
  have hbl:decide (v0<=9223372036854775807)=false:=decide_eq_false hv
  rw[hbl]
  clear hbl hR hRI hvk hv0 htc hlv hJ1 hJ h ho hb b1 hv z1
  go_enter Tryz.func202,Tryz.ntmps202
  go_wp2_with fail
  rw[<- hw1]
  refine Calls.mono HU.out ?_
  rintro e w2 ⟨rfl,b2⟩
  have B2:=hid (B1.out.trans (b2.mono B1.out.size))
  have k3:=(B2.out.cell (p:=⟨j,3,none⟩) hjl).trans j3
  clear b2 HU hw1 B1 j3
  unfold perr
  go_wp2_with fail
  go_region
  all_goals
   go_wp2
   go_ret
   exact⟨by simp,by simpa using B2.out.drew⟩
def foreign (life:Nat) (zs:List Int):Bool:=(decide (zs.getD 0 0=2\/zs.getD 0 0=1) || toCome life zs) && (unZ zs).isSome
theorem isForeign_any{room nb fr:Nat}(h:Jq Z w j c p room nb K fr bl d s){g cap:Nat}(ho:Own w g 512 cap zs)(hb:Pl.isB zs):Calls Tryz.prog 170 #[.pointer (some ⟨j,0,none⟩),.slice (some ⟨g,0,none⟩) 512 cap] w fun e w'=>e=.returned (.bool (foreign s.life zs))/\Below w.heap.size w w':=by
 have HW:=hid (saysWhose_any ho hb)
 have HC:=hid (isToCome_any h ho hb)
 have HUn:Hid (∀w1,Below w.heap.size w w1->Calls Tryz.prog 195 #[.slice (some ⟨g,0,none⟩) 512 cap] w1 fun e w'=>UnP w1 (unZ zs) e w'/\Below w1.heap.size w1 w'):=fun w1 b1=>Unstamp_any (ho.keep (b1.block g ho.lt)) hb
 unfold foreign
 generalize decide (zs.getD 0 0=2\/zs.getD 0 0=1)=bw at *
 generalize toCome s.life zs=bc at *
 generalize unZ zs=o at *
 clear h ho hb
 have TAIL:Hid (∀w1,Below w.heap.size w w1->Calls Tryz.prog 195 #[.slice (some ⟨g,0,none⟩) 512 cap] w1 fun e w'=>Below w.heap.size w w'/\∃k l v code,e=.returned (.tuple #[.int .i64 k,.int .i64 l,v,.int .i64 code])/\(decide (code=0)=o.isSome)):=fun w1 b1=>by
  refine Calls.mono (HUn.out w1 b1) ?_
  rintro e w' ⟨hu,b2⟩
  refine⟨b1.trans (b2.mono b1.size),?_⟩
  cases o with
  | none=>
   obtain⟨code,rfl,hc⟩:=hu
   exact⟨_,_,_,code,rfl,by simp[hc]⟩
  | some r=>
   obtain⟨k,l,body⟩:=r
   obtain⟨g2,rfl,_⟩:=hu
   exact⟨_,_,_,0,rfl,by simp⟩
 clear HUn
 cases bw with
 | true=>
  go_enter Tryz.func170,Tryz.ntmps170
  go_wp2_with fail
  refine Calls.mono HW.out ?_
  rintro e w1 ⟨rfl,hw1⟩
  rw[hw1]
  clear hw1 HW HC
  have T1:=hid (TAIL.out w (Below.refl _ _))
  go_wp2_with fail
  refine Calls.mono T1.out ?_
  rintro e w2 ⟨b2,k,l,v,code,rfl,hc⟩
  have FIN:=hid (And.intro b2 hc)
  clear b2 hc T1 TAIL
  go_wp2
  go_ret
  refine⟨?_,FIN.out.1⟩
  rw[<- FIN.out.2]
  simp
  rfl
 | false=>
  cases bc with
  | true=>
   go_enter Tryz.func170,Tryz.ntmps170
   go_wp2_with fail
   refine Calls.mono HW.out ?_
   rintro e w1 ⟨rfl,hw1⟩
   rw[hw1]
   clear hw1 HW
   go_wp2_with fail
   refine Calls.mono HC.out ?_
   rintro e w1 ⟨rfl,b1⟩
   have T1:=hid (TAIL.out w1 b1)
   clear b1 HC TAIL
   go_wp2_with fail
   refine Calls.mono T1.out ?_
   rintro e w2 ⟨b2,k,l,v,code,rfl,hc⟩
   have FIN:=hid (And.intro b2 hc)
   clear b2 hc T1
   go_wp2
   go_ret
   refine⟨?_,FIN.out.1⟩
   rw[<- FIN.out.2]
   simp
   rfl
  | false=>
   go_enter Tryz.func170,Tryz.ntmps170
   go_wp2_with fail
   refine Calls.mono HW.out ?_
   rintro e w1 ⟨rfl,hw1⟩
   rw[hw1]
   clear hw1 HW
   go_wp2_with fail
   refine Calls.mono HC.out ?_
   rintro e w1 ⟨rfl,b1⟩
   have FIN:=hid b1
   clear b1 HC TAIL
   go_wp2
   go_ret
   exact⟨by simp,FIN.out⟩
open Go.RowKit Go.Shelf
def equalA_ren:Go.Shelf.Ren:=⟨fun | 115=>169 | n=>n,fun | 37=>65 | 4=>4 | 9=>9 | 5=>5 | n=>n,fun | n=>n⟩
theorem equalA:Go.Proofs.Lays.nb115 Tryz.prog equalA_ren:={
 mixed:=by kernel_rfl
 f115:=Tryz.func169.trans (congrArg some (by kernel_rfl))
 t4:=Tryz.underlying4
 a4:=Tryz.isAgg4
 z4:=Tryz.sizeOf4
 v4:=Tryz.zeroValue4
 t9:=Tryz.underlying9
 a9:=Tryz.isAgg9
 z9:=Tryz.sizeOf9
 v9:=Tryz.zeroValue9
 t37:=Tryz.underlying65
 a37:=Tryz.isAgg65
 z37:=Tryz.sizeOf65
 v37:=Tryz.zeroValue65
 t5:=Tryz.underlying5
 a5:=Tryz.isAgg5
 z5:=Tryz.sizeOf5
 v5:=Tryz.zeroValue5 }
theorem bytes_inj:∀ {xs ys:List Int},Pl.isB xs->Pl.isB ys->Lib.bytesOf xs=Lib.bytesOf ys->xs=ys
 | [],[],_,_,_=>rfl
 | [],_ :: _,_,_,h=>by simp[Lib.bytesOf]at h
 | _ :: _,[],_,_,h=>by simp[Lib.bytesOf]at h
 | x :: xs,y :: ys,hx,hy,h=>by
  simp only[Lib.bytesOf,List.map_cons,List.cons.injEq]at h
  have h1:=hx x (by simp)
  have h2:=hy y (by simp)
  have e:x=y:=by
   have:=congrArg UInt8.toNat h.1
   simp at this
   omega
  rw[e,bytes_inj (fun z hz=>hx z (by simp[hz])) (fun z hz=>hy z (by simp[hz])) h.2]
theorem Equal_any{c1 g2 c2:Nat}{xs:List Int}(h1:Own w g1 512 c1 xs)(h2:Own w g2 512 c2 ys)(b1:Pl.isB xs)(b2:Pl.isB ys):Calls Tryz.prog 169 #[.slice (some ⟨g1,0,none⟩) 512 c1,.slice (some ⟨g2,0,none⟩) 512 c2] w fun e w'=>e=.returned (.bool (decide (xs=ys)))/\w'=w:=by
 refine Calls.mono (Any.bytes_Equal_all equalA (some ⟨g1,0,none⟩) (some ⟨g2,0,none⟩) 512 c1 512 c2 xs ys w h1.len h2.len (fun _=>⟨g1,0,rfl,fun i hi=>by rw[Nat.zero_add];exact h1.cell i hi⟩) (fun _=>⟨g2,0,rfl,fun i hi=>by rw[Nat.zero_add];exact h2.cell i hi⟩)) ?_
 rintro e w' ⟨rfl,rfl⟩
 refine⟨?_,rfl⟩
 congr 2
 by_cases q:xs=ys
 ·simp[q]
 ·have:¬Lib.bytesOf xs=Lib.bytesOf ys:=fun r=>q (bytes_inj b1 b2 r)
  simp[q,this]
def otherAt (fr bl life:Nat) (rd:Nat->List Int) (i:Nat):Bool:=!decide (rd (fr+1+i)=blankZ fr bl) && foreign life (rd (fr+1+i))
def NoP (fr bl:Nat) (s:Js) (rd:Nat->List Int) (e:Ending):Prop :=
 (e=.returned (.int .i64 0)/\∀i,s.used<=i->i<bl-1->otherAt fr bl s.life rd i=false)\/(e=.returned (.int .i64 41)/\∃i,s.used<=i/\i<bl-1/\otherAt fr bl s.life rd i=true)
theorem findNoOther_any{room nb fr:Nat}(h:Jq Z w j c p room nb K fr bl d s)(hn:Jn nb fr bl s)(hl:d.puts.length<=1073741824)(hon:d.off=false) :
  Calls Tryz.prog 126 #[.pointer (some ⟨j,0,none⟩)] w fun e w'=>NoP fr bl s d.read e/\Below w.heap.size w w':=by
 have hlo:=hn.lo
 have hfit:=hn.fit
 have hnb:=hn.nb
 have hus:=hn.used
 obtain⟨mv,hJ,hZj⟩:=h.cells
 have j1:=hJ.cell 1
 have j2:=hJ.cell 2
 simp at j1 j2
 have HB:=hid (stamped_blank (fr:=fr) (bl:=bl) (by omega) (by omega) w)
 have HL:=hid (And.intro hl hon)
 have HJ:=hid h
 clear hJ h hn hl hon hZj
 go_enter Tryz.func126,Tryz.ntmps126
 go_wp2_with fail
 refine Calls.mono HB.out ?_
 rintro e w1 ⟨g0,rfl,hg0,hblk,b1⟩
 have hJ1:=HJ.out.below b1
 obtain⟨mv1,hJb1,_⟩:=hJ1.cells
 have k5:=hJb1.cell 5
 simp at k5
 have HO:=hid (Own.of_blk hblk (blankZ_ok fr bl).1 (by unfold maxLen;omega))
 have HJ1:=hid hJ1
 have HB1:=hid b1
 clear hg0 hblk b1 HB j1 j2 hJ1 hJb1 HJ
 generalize hN:bl-1=N at *
 go_wp2_with fail
 go_loopw [5] (fun iv wr=>∃i:Nat,s.used<=i/\i<=N/\iv=.int .i64 (i:Int)/\(∀t,s.used<=t->t<i->otherAt fr bl s.life d.read t=false)/\Below w1.heap.size w1 wr) (fun iv _=>N-(intOf iv).toNat)
 case atStart=>exact⟨s.used,Nat.le_refl _,by omega,rfl,fun t h1 h2=>by omega,Below.refl _ _⟩
 case round=>
  obtain⟨i,hiu,hi,rfl,hall,hbt⟩:=hrel
  have hJr:=HJ1.out.below hbt
  obtain⟨mvr,hJbr,_⟩:=hJr.cells
  have j1:=hJbr.cell 1
  have j2:=hJbr.cell 2
  simp at j1 j2
  have HA:=hid (jlogRoom_any (fr:Int) (bl:Int) (by omega) (by omega) wr)
  have HJr:=hid hJr
  have HBt:=hid hbt
  have HALL:=hid hall
  clear hJr hJbr hbt hall k5
  go_wp2_with fail
  refine Calls.mono HA.out ?_
  rintro e w2 ⟨rfl,b2⟩
  have hb1:((bl:Int)-1)=(N:Int):=by omega
  rw[hb1]
  have HB2:=hid (HBt.out.trans (b2.mono HBt.out.size))
  have hJ2:=HJr.out.below b2
  obtain⟨mv2,hJb2,_⟩:=hJ2.cells
  obtain⟨_,hc0,hcl⟩:=hJ2.dk
  have m0:=hJb2.cell 0
  have m1:=hJb2.cell 1
  have m2:=hJb2.cell 2
  simp at m0 m1 m2
  have hjl:=hJb2.lt
  have HJ2:=hid hJ2
  clear hb1 b2 HA j1 j2 hJ2 hJb2 HBt
  by_cases hiN:i<N
  ·have hiN':(i:Int)<(N:Int):=by omega
   have HLB:=hid (jlogBlock_any (fr:Int) (bl:Int) (i:Int) (by omega) (by omega) (by omega) (by omega) w2.drew)
   have HRD:Hid (∀w3,Below w2.heap.size w2 w3->(Calls Tryz.prog 168 #[.pointer (some ⟨p,0,none⟩),.int .i64 ((fr:Int)+1+(i:Int))] w3 fun e w'=>∃g cp,e=.returned (.tuple #[.slice (some ⟨g,0,none⟩) 512 cp,.int .i64 0])/\w3.heap.size<=g/\Own w' g 512 cp (d.read (fr+1+i))/\Below w3.heap.size w3 w')/\Pl.isB (d.read (fr+1+i))):=fun w3 b3=>by
    have q:=(HJ2.out.below b3).dread HL.out.1 HL.out.2 (fr+1+i) (by omega)
    rw[show (((fr+1+i:Nat)):Int)=(fr:Int)+1+(i:Int) by omega]at q
    exact⟨q.1,q.2.2⟩
   go_wp2_with fail
   go_region_held3 (fun w'=>w'.cell? ⟨j,0,none⟩=some (.pointer (some ⟨c,0,none⟩))/\w'.cell? ⟨j,1,none⟩=some (.int .i64 (fr:Int))/\w'.cell? ⟨j,2,none⟩=some (.int .i64 (bl:Int))/\w'.cell? ⟨c,0,none⟩=some (.pointer (some ⟨p,0,none⟩))) (first | (exact⟨by assumption,by assumption,by assumption,by assumption⟩) | go_keep) (first
    | (go_at_call 137;refine Calls.mono HLB.out ?_;rintro e w3 ⟨rfl,b3⟩;have B3:Hid (Below w2.heap.size w2 w3):=⟨b3.os,b3.tape,b3.output,b3.size,b3.block⟩;have n0:=(B3.out.cell (p:=⟨j,0,none⟩) hjl).trans m0;have n1:=(B3.out.cell (p:=⟨j,1,none⟩) hjl).trans m1;have n2:=(B3.out.cell (p:=⟨j,2,none⟩) hjl).trans m2;have nc:=(B3.out.cell (p:=⟨c,0,none⟩) hcl).trans hc0;clear b3)
    | (go_at_call 168;refine Calls.mono (HRD.out _ B3.out).1 ?_;rintro e w4 ⟨g4,cp4,rfl,hg4,ho4,b4⟩;have B4:=hid (B3.out.trans (b4.mono B3.out.size));have q0:=(B4.out.cell (p:=⟨j,0,none⟩) hjl).trans m0;have q1:=(B4.out.cell (p:=⟨j,1,none⟩) hjl).trans m1;have q2:=(B4.out.cell (p:=⟨j,2,none⟩) hjl).trans m2;have qc:=(B4.out.cell (p:=⟨c,0,none⟩) hcl).trans hc0;have HO4:=hid ho4;clear b4 ho4))
   have hisb:=(HRD.out _ B3.out).2
   have hbw4:Below w1.heap.size w1 w4:=HB2.out.trans (B4.out.mono HB2.out.size)
   have HE:=hid (Equal_any HO4.out (HO.out.keep (hbw4.block g0 HO.out.lt)) hisb (blankZ_ok fr bl).2)
   have HFo:=hid (isForeign_any (HJ2.out.below B4.out) HO4.out hisb)
   have HB4:=hid hbw4
   have HBw:=hid (HB1.out.trans (hbw4.mono HB1.out.size))
   have hoa:otherAt fr bl s.life d.read i=(!decide (d.read (fr+1+i)=stampZ 1 0 (blankB fr bl)) && foreign s.life (d.read (fr+1+i))):=rfl
   generalize decide (d.read (fr+1+i)=stampZ 1 0 (blankB fr bl))=be at *
   generalize foreign s.life (d.read (fr+1+i))=bf at *
   have HOA:=hid hoa
   clear hisb hbw4 HO4 B3 B4 HRD HLB n0 n1 n2 nc q0 q1 q2 qc m0 m1 m2 hc0 hcl hjl HJ2 hoa hg4
   cases be with
   | true=>
    go_wp2_with fail
    refine Calls.mono HE.out ?_
    rintro e w5 ⟨rfl,hw5⟩
    rw[hw5]
    clear hw5 HE HFo
    go_wp2_with fail
    go_roundw
    case rel=>exact⟨i+1,by omega,by omega,by go_num,fun t h1 h2=>by
      by_cases q:t=i
      ·rw[q,HOA.out];rfl
      ·exact HALL.out t h1 (by omega),HB4.out⟩
    case measure=>simp[intOf];omega
   | false=>
    cases bf with
    | true=>
     go_wp2_with fail
     refine Calls.mono HE.out ?_
     rintro e w5 ⟨rfl,hw5⟩
     rw[hw5]
     clear hw5 HE
     go_wp2_with fail
     refine Calls.mono HFo.out ?_
     rintro e w5 ⟨rfl,b5⟩
     have FIN:Hid (NoP fr bl s d.read (.returned (.int .i64 41))/\Below w.heap.size w w5):=⟨.inr ⟨rfl,i,hiu,by omega,HOA.out⟩,HBw.out.trans (b5.mono HBw.out.size)⟩
     clear b5 HFo
     go_wp2
     go_ret
     exact FIN.out
    | false=>
     go_wp2_with fail
     refine Calls.mono HE.out ?_
     rintro e w5 ⟨rfl,hw5⟩
     rw[hw5]
     clear hw5 HE
     go_wp2_with fail
     refine Calls.mono HFo.out ?_
     rintro e w5 ⟨rfl,b5⟩
     have HB5:=hid (HB4.out.trans (b5.mono HB4.out.size))
     clear b5 HFo
     go_wp2_with fail
     go_roundw
     case rel=>exact⟨i+1,by omega,by omega,by go_num,fun t h1 h2=>by
       by_cases q:t=i
       ·rw[q,HOA.out];rfl
       ·exact HALL.out t h1 (by omega),HB5.out⟩
     case measure=>simp[intOf];omega
  ·have hiN':¬(i:Int)<(N:Int):=by omega
   have FIN:Hid (NoP fr bl s d.read (.returned (.int .i64 0))/\Below w.heap.size w w2):=⟨.inl ⟨rfl,fun t h1 h2=>HALL.out t h1 (by omega)⟩,HB1.out.trans (HB2.out.mono HB1.out.size)⟩
   clear HALL HB2 HJ2 HJr m0 m1 m2 hc0
   go_wp2
   go_ret
   exact FIN.out
open Go.RowKit
theorem headAt_le{fr:Nat}(h:headAt fr bl zs=some (l,q)):l<=1099511627776/\q<=1099511627776:=by
 unfold headAt at h
 cases hu:unZ zs with
 | none=>rw[hu]at h;cases h
 | some r=>
  obtain⟨k,l',body⟩:=r
  rw[hu]at h
  simp only at h
  have hl:l'<=1099511627776:=by
   unfold unZ at hu
   split at hu
   ·cases hu
   ·rename_i q1
    split at hu
    ·cases hu
    ·injection hu with hu
     injection hu with _ hu
     injection hu with hu _
     rw[<- hu]
     omega
  split at h
  ·cases hd:hdZ body with
   | none=>rw[hd]at h;cases h
   | some t=>
    obtain⟨f,b,q'⟩:=t
    rw[hd]at h
    simp only at h
    split at h
    ·injection h with h
     injection h with h1 h2
     have hq:q'<=1099511627776:=by
      unfold hdZ at hd
      split at hd
      ·rename_i q1
       injection hd with hd
       injection hd with _ hd
       injection hd with _ hd
       rw[<- hd]
       exact q1.2
      ·cases hd
     omega
    ·cases h
  ·cases h
theorem logScan_jn{nb fr:Nat}{rd:Nat->List Int}:∀(k i:Nat) (found:List Int) (s:Js),Jn nb fr bl s->i+k+1<=bl->Jn nb fr bl (logScan nb fr bl rd k i found s)
 | 0,_,_,_,h,_=>h
 | k+1,i,found,s,h,hk=>by
  unfold logScan
  cases unZ (rd (fr+1+i)) with
  | none=>exact h
  | some r=>
   obtain⟨kd,l,body⟩:=r
   simp only
   split
   ·exact h
   ·split
    ·exact logScan_jn k (i+1) _ s h (by omega)
    ·split
     ·split
      ·rename_i hok
       have hsq:s.seq<1099511627776:=by
        unfold okFound at hok
        rw[Bool.and_eq_true,Bool.and_eq_true]at hok
        have:=of_decide_eq_true hok.1.2
        omega
       exact logScan_jn k (i+1) [] _ ⟨h.lo,h.fit,h.nb,h.life,by show s.seq+1<=_;omega,by show i+1+1<=bl;omega⟩ (by omega)
      ·exact h
     ·exact h
def openS (nb f b:Nat) (d:Pd) (l q:Nat):Js:=logScan nb f b d.read (b-1) 0 [] ⟨l,q,0,fun _=>none⟩
def NoOther (f b:Nat) (s:Js) (d:Pd):Prop:=∀i,s.used<=i->i<b-1->otherAt f b s.life d.read i=false
def OpenQ (Z:Nat->Prop) (w:World) (j c p room nb K f b:Nat) (d:Pd) (e:Ending) (w':World):Prop :=
 But Z w w'/\((e=.returned (.int .i64 41)/\(headAt f b (d.read f)=none\/∃l q,headAt f b (d.read f)=some (l,q)/\¬NoOther f b (openS nb f b d l q) d)/\∃Z' s',Jq Z' w' j c p room nb K f b d s'/\Gr Z Z' w) \/
  (∃l q,headAt f b (d.read f)=some (l,q)/\NoOther f b (openS nb f b d l q) d/\Did Z w j c p room nb K f b d (settleCmds nb f b (openS nb f b d l q)) (goS (openS nb f b d l q)) e w'))
theorem open_turn{room nb:Nat}(h0:Jq Z w0 j c p room nb K f b d noS)(hb:Below w.heap.size w w0)(l0:k<w0.heap.size)(k0:¬Z k)(hn:Jn nb f b noS)(hl:d.puts.length+nb+b+8<=1073741823)(hon:d.off=false) :
  Turn k (OpenQ Z w j c p room nb K f b d) [((124:Nat),Value.pointer (some ⟨j,0,none⟩)),(125,.pointer (some ⟨j,0,none⟩)),(126,.pointer (some ⟨j,0,none⟩)),(127,.pointer (some ⟨j,0,none⟩))] w0:=by
 show Calls _ _ _ _ _
 refine Calls.mono (findHead_any h0 hn (by omega) hon) ?_
 intro e w1 hF
 cases hh:headAt f b (d.read f) with
 | none=>
  rw[hh]at hF
  obtain⟨rfl,⟨Z1,s1,hJ1,hG1⟩,b1⟩:=hF
  refine⟨41,rfl,fun _=>⟨(But.of_below hb).trans b1,.inl ⟨rfl,.inl hh,Z1,s1,hJ1,fun x hx q=>hG1 x (by have:=hb.size;omega) q⟩⟩,fun q=>absurd q (by decide)⟩
 | some r=>
  obtain⟨l,q⟩:=r
  rw[hh]at hF
  obtain⟨rfl,⟨Z1,hJ1,hG1⟩,b1⟩:=hF
  have hle:=headAt_le hh
  have hn1:Jn nb f b ⟨l,q,0,fun _=>none⟩:=⟨hn.lo,hn.fit,hn.nb,hle.1,hle.2,hn.used⟩
  refine⟨0,rfl,fun q=>absurd rfl q,fun _=>⟨b1.block k l0 k0,?_⟩⟩
  have k1:¬Z1 k:=fun q=>k0 (hG1 k l0 q)
  have l1:k<w1.heap.size:=Nat.lt_of_lt_of_le l0 b1.size
  have bt1:But Z w w1:=(But.of_below hb).trans b1
  have gt1:Gr Z Z1 w:=fun x hx q=>hG1 x (by have:=hb.size;omega) q
  show Calls _ _ _ _ _
  refine Calls.mono (findLog_any (s:=⟨l,q,0,fun _=>none⟩) hJ1 hn1 (by omega) hon) ?_
  rintro e w2 ⟨rfl,⟨Z2,hJ2,hG2⟩,b2⟩
  have hn2:Jn nb f b (openS nb f b d l q):=logScan_jn (b-1) 0 [] _ hn1 (by have:=hn.lo;omega)
  refine⟨0,rfl,fun q=>absurd rfl q,fun _=>⟨b2.block k l1 k1,?_⟩⟩
  have k2:¬Z2 k:=fun q=>k1 (hG2 k l1 q)
  have l2:k<w2.heap.size:=Nat.lt_of_lt_of_le l1 b2.size
  have bt2:But Z w w2:=bt1.comp b2 (fun x hx q=>gt1 x hx q)
  have gt2:Gr Z Z2 w:=gt1.trans hG2 bt1.size
  show Calls _ _ _ _ _
  refine Calls.mono (findNoOther_any (s:=openS nb f b d l q) hJ2 hn2 (by omega) hon) ?_
  rintro e w3 ⟨hno,b3⟩
  rcases hno with ⟨rfl,hno⟩ | ⟨rfl,i,i1,i2,i3⟩
  ·refine⟨0,rfl,fun q=>absurd rfl q,fun _=>⟨b3.block k l2,?_⟩⟩
   have hJ3:=hJ2.below b3
   have bt3:But Z w w3:=bt2.trans (But.of_below b3)
   show Calls _ _ _ _ _
   refine Calls.mono (settle_any (s:=openS nb f b d l q) hJ3 hn2 hl) ?_
   intro e w4 hD
   have hD0:=hD.from gt2 bt3
   obtain⟨he,⟨Z4,s4,hJ4,hs4,hG4⟩,b4⟩:=hD
   refine⟨_,he,fun _=>⟨hD0.2.2,.inr ⟨l,q,hh,hno,hD0⟩⟩,fun hz=>⟨b4.block k (Nat.lt_of_lt_of_le l2 b3.size) k2,?_⟩⟩
   show OpenQ _ _ _ _ _ _ _ _ _ _ _ _ _
   rw[he,hz]at hD0
   exact⟨hD0.2.2,.inr ⟨l,q,hh,hno,hD0⟩⟩
  ·refine⟨41,rfl,fun _=>⟨bt2.trans (But.of_below b3),.inl ⟨rfl,.inr ⟨l,q,hh,fun r=>by rw[r i i1 i2]at i3;cases i3⟩,Z2,_,hJ2.below b3,gt2⟩⟩,fun q=>absurd q (by decide)⟩
open Go.RowKit
theorem steps_ready2(w:World)(vs:Array Value)(fs:List (Nat×Value))(h:∀(i:Nat) (f:Nat×Value),fs[i]?=some f->vs[i]?=some (Value.func (Fn.func f.1) #[f.2] #[]))(e:w1=w.alloc (.cells vs 42)):Below w.heap.size w w1/\w1.heap.size=w.heap.size+1/\∀(i:Nat) (f:Nat×Value),fs[i]?=some f->w1.cell? ⟨w.heap.size,i,none⟩=some (.func (.func f.1) #[f.2] #[]):=by
 subst e
 exact⟨(Below.refl _ _).alloc (Nat.le_refl _) _,by simp,fun i f hf=>cell_new rfl i _ (h i f hf)⟩
def OpenP (Z:Nat->Prop) (w:World) (c p room nb K:Nat) (d:Pd) (fr bl:Int) (e:Ending) (w':World):Prop :=
 But Z w w'/\∃jv code,e=.returned (.tuple #[.pointer jv,.int .i64 code]) /\
  ((layC d nb fr bl≠0/\code=layC d nb fr bl/\jv=none/\∃Z',Cq Z' w' c p room nb K d/\Gr Z Z' w) \/
  (layC d nb fr bl=0/\∃f b:Nat,fr=f/\bl=b/\16<=b/\f+b<=nb /\
   ((code=41/\jv=none/\(headAt f b (d.read f)=none\/∃l q,headAt f b (d.read f)=some (l,q)/\¬NoOther f b (openS nb f b d l q) d)/\∃Z',Cq Z' w' c p room nb K d/\Gr Z Z' w) \/
   (∃l q,headAt f b (d.read f)=some (l,q)/\NoOther f b (openS nb f b d l q) d/\code=(d.runs (settleCmds nb f b (openS nb f b d l q))).1/\∃Z',Gr Z Z' w /\
    ((code≠0/\jv=none/\Cq Z' w' c p room nb K (d.runs (settleCmds nb f b (openS nb f b d l q))).2) \/
     (code=0/\∃j,jv=some ⟨j,0,none⟩/\w.heap.size<=j/\Jq Z' w' j c p room nb K f b (d.runs (settleCmds nb f b (openS nb f b d l q))).2 (goS (openS nb f b d l q))))))))
theorem Open_any{room nb:Nat}(h:Cq Z w c p room nb K d)(fr bl:Int)(hl:d.puts.length+nb+nb+8<=1073741823) :
  Calls Tryz.prog 70 #[.pointer (some ⟨c,0,none⟩),.int .i64 fr,.int .i64 bl] w (OpenP Z w c p room nb K d fr bl):=by
 have H:=hid (jlay_any h fr bl)
 have HC:=hid h
 have hnb:=h.fits.2.2
 clear h
 go_enter Tryz.func70,Tryz.ntmps70
 go_wp2_with fail
 refine Calls.mono H.out ?_
 rintro e w2 ⟨jv,rfl,b2,hq⟩
 rcases hq with ⟨hne,rfl⟩ | ⟨hz,j,f,b,rfl,rfl,rfl,q1,q2,q3,Z2,hJ,hG⟩
 ·have FIN:Hid (OpenP Z w c p room nb K d fr bl (.returned (.tuple #[.pointer none,.int .i64 (layC d nb fr bl)])) w2):=⟨But.of_below b2,none,_,rfl,.inl ⟨hne,rfl,rfl,Z,HC.out.below b2,Gr.refl _ _⟩⟩
  clear b2 H HC hnb hl
  generalize layC d nb fr bl=code at *
  go_wp2
  go_ret2
  exact FIN.out
 ·have hon:d.off=false:=by
   unfold layC at hz
   cases ho:d.off
   ·rfl
   ·rw[ho]at hz;simp at hz
  obtain⟨w3,hw1⟩:∃w3,w3=(w2.alloc (.cells #[.func (.func 124) #[.pointer (some ⟨j,0,none⟩)] #[],.func (.func 125) #[.pointer (some ⟨j,0,none⟩)] #[],.func (.func 126) #[.pointer (some ⟨j,0,none⟩)] #[],.func (.func 127) #[.pointer (some ⟨j,0,none⟩)] #[]] 42)):=⟨_,rfl⟩
  obtain⟨b1,z1,F1⟩:=steps_ready2 w2 _ [((124:Nat),Value.pointer (some ⟨j,0,none⟩)),(125,.pointer (some ⟨j,0,none⟩)),(126,.pointer (some ⟨j,0,none⟩)),(127,.pointer (some ⟨j,0,none⟩))] (fun i f hf=>by
    rcases i with _ | _ | _ | _ | i
    ·cases hf;rfl
    ·cases hf;rfl
    ·cases hf;rfl
    ·cases hf;rfl
    ·simp at hf) hw1
  have hn:Jn nb f b noS:=⟨q1,q2,hnb,Nat.zero_le _,Nat.zero_le _,by simp[noS];omega⟩
  have HT:=open_turn (w:=w2) (k:=w2.heap.size) (hJ.cut.below b1) b1 (by omega) (fun q=>by have:=q.2;omega) hn (by omega) hon
  have HI:=hid (inTurn_any (k:=w2.heap.size) _ (by simp) (fun i g hg=>by
   have:=List.mem_of_getElem? hg
   simp at this
   rcases this with rfl | rfl | rfl | rfl <;> simp) w3 F1 HT)
  have hs:=b2.size
  have HF:Hid (∀e w4,OpenQ (fun k=>Z2 k/\k<w2.heap.size) w2 j c p room nb K f b d e w4->∃code,e=.returned (.int .i64 code)/\(code≠0->OpenP Z w c p room nb K d (f:Int) (b:Int) (.returned (.tuple #[.pointer none,.int .i64 code])) w4)/\(code=0->OpenP Z w c p room nb K d (f:Int) (b:Int) (.returned (.tuple #[.pointer (some ⟨j,0,none⟩),.int .i64 0])) w4)):=fun e w4 q=>by
   obtain⟨bq,hc⟩:=q
   have bw:But Z w w4:=(But.of_below b2).comp bq (fun k hk r=>hG k hk r.1)
   rcases hc with ⟨rfl,hno,Z4,s4,hJ4,hG4⟩ | ⟨l,q,hh,hno,hD⟩
   ·exact⟨41,rfl,fun _=>⟨bw,none,41,rfl,.inr ⟨hz,f,b,rfl,rfl,q1,q2,.inl ⟨rfl,rfl,hno,Z4,hJ4.toCq,fun k hk r=>hG k hk (hG4 k (by omega) r).1⟩⟩⟩,fun r=>absurd r (by decide)⟩
   ·obtain⟨he,⟨Z4,s4,hJ4,hs4,hG4⟩,b4⟩:=hD
    have hg:Gr Z Z4 w:=fun k hk r=>hG k hk (hG4 k (by omega) r).1
    refine⟨_,he,fun hc=>⟨bw,none,_,rfl,.inr ⟨hz,f,b,rfl,rfl,q1,q2,.inr ⟨l,q,hh,hno,rfl,Z4,hg,.inl ⟨hc,rfl,hJ4.toCq⟩⟩⟩⟩,fun hc=>⟨bw,some ⟨j,0,none⟩,0,rfl,.inr ⟨hz,f,b,rfl,rfl,q1,q2,.inr ⟨l,q,hh,hno,hc.symm,Z4,hg,.inr ⟨rfl,j,rfl,q3,?_⟩⟩⟩⟩⟩
    rw[hs4 hc]at hJ4
    exact hJ4
  clear HT hJ hG b2 H HC hnb hl F1 z1 b1 hn q1 q2 q3 hs hon
  rw[hz]
  have HW1:=hid hw1
  clear hw1 hz
  go_wp2_with fail
  rw[<- HW1.out]
  refine Calls.mono HI.out ?_
  intro e w4 hQ
  obtain⟨code,rfl,r1,r2⟩:=HF.out e w4 hQ
  by_cases hc:code=0
  ·have FIN:=hid (r2 hc)
   clear r1 r2 hQ HI HF HW1
   subst hc
   go_wp2
   go_ret2
   exact FIN.out
  ·have FIN:=hid (r1 hc)
   clear r1 r2 hQ HI HF HW1
   go_wp2
   go_ret2
   exact FIN.out
open Go.RowKit
theorem Jq.ask{room nb fr:Nat}(h:Jq Z w j c p room nb K fr bl d s):Calls Tryz.prog 76 #[.pointer (some ⟨j,0,none⟩)] w fun e w'=>e=.returned (.int .i64 (if d.off then 24 else 0))/\Below w.heap.size w w':=by
 obtain⟨mv,hJ,_⟩:=h.cells
 obtain⟨hD,c0,_⟩:=h.dk
 exact jask_any hJ c0 hD
theorem Flush_on{room nb fr:Nat}(h:Jq Z w j c p room nb K fr bl d s)(hon:d.off=false)(hl:d.puts.length<=1073741824):Calls Tryz.prog 101 #[.pointer (some ⟨j,0,none⟩)] w (Did Z w j c p room nb K fr bl d [.fl] s):=by
 have H:=hid h.ask
 rw[hon]at H
 have HJ:=hid h
 clear h hon
 go_enter Tryz.func101,Tryz.ntmps101
 go_wp2_with fail
 refine Calls.mono H.out ?_
 rintro e w1 ⟨rfl,b1⟩
 have hJ1:=HJ.out.cut.below b1
 obtain⟨mv,hJb,_⟩:=hJ1.cells
 have c0:=hJb.cell 0
 simp at c0
 have HD:=hid (Did.of_one (hJ1.flush hl))
 have B1:=hid b1
 clear b1 H hJ1 hJb
 go_wp2_with fail
 refine Calls.mono HD.out ?_
 intro e w2 q
 have FIN:=hid (q.from (fun k _ r=>r.1) (But.of_below B1.out))
 obtain⟨rfl,_⟩:=q
 clear HD c0 B1
 go_wp2
 go_ret
 exact FIN.out
theorem Seq_any{room nb fr:Nat}(h:Jq Z w j c p room nb K fr bl d s):Calls Tryz.prog 128 #[.pointer (some ⟨j,0,none⟩)] w fun e w'=>e=.returned (.tuple #[.int .i64 (if d.off then 0 else (s.seq:Int)),.int .i64 (if d.off then 24 else 0)])/\Below w.heap.size w w':=by
 have H:=hid h.ask
 have HJ:=hid h
 clear h
 cases ho:d.off
 ·rw[ho]at H
  go_enter Tryz.func128,Tryz.ntmps128
  go_wp2_with fail
  refine Calls.mono H.out ?_
  rintro e w1 ⟨rfl,b1⟩
  obtain⟨mv,hJb,_⟩:=(HJ.out.below b1).cells
  have c4:=hJb.cell 4
  simp at c4
  have B1:=hid b1
  clear b1 H HJ hJb
  go_wp2
  go_ret2
  exact⟨rfl,B1.out⟩
 ·rw[ho]at H
  go_enter Tryz.func128,Tryz.ntmps128
  go_wp2_with fail
  refine Calls.mono H.out ?_
  rintro e w1 ⟨rfl,b1⟩
  have B1:=hid b1
  clear b1 H HJ
  go_wp2
  go_ret2
  exact⟨rfl,B1.out⟩
end Go.Proofs.YtlefjidbpjkhlaaGreat
