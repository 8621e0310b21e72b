import Derived.Test.YthfojpcibnfmgaaGreatG14
import Derived.Lib.AppendZeros
set_option maxRecDepth 100000
set_option maxHeartbeats 16000000
namespace Go.Proofs.YthfojpcibnfmgaaGreat
open Go.RowKit
def putK (zs:List Int) (i:Nat):Nat × List Int:=((Pl.num ((zs.drop (515 * i)).take 3)).toNat,(zs.drop (515 * i + 3)).take 512)
def putsZ (zs:List Int):List (Nat × List Int):=(List.range (zs.length / 515)).map (putK zs)
def putM (zs:List Int) (b off cp i:Nat):Pm:=⟨Pl.num ((zs.drop (515 * i)).take 3),some ⟨b,off + (515 * i + 3),none⟩,cp - 515 * i - 3,(zs.drop (515 * i + 3)).take 512⟩
def pmCells (ps:List Pm):List Value:=ps.flatMap fun p=> [.int .i64 p.at_,.slice p.ad p.data.length p.cap]
theorem pmCells_snoc (ps:List Pm) (p:Pm):pmCells (ps ++ [p]) = pmCells ps ++ [.int .i64 p.at_,.slice p.ad p.data.length p.cap]:=by simp [pmCells]
theorem info68:(Tryz.prog.info? 184).map (fun i=> (i.zero,i.size,i.bytes)) = some (some (.agg #[.int .i64 0,.slice none 0 0]),2,32):=by kernel_rfl
theorem num3 {zs:List Int} (hb:Pl.isB zs) (i:Nat):0 <= Pl.num ((zs.drop i).take 3) /\ Pl.num ((zs.drop i).take 3) < 16777216:=by
 have h:=Pl.num_lt (Pl.isB_take (Pl.isB_drop hb i) 3)
 have h2:((zs.drop i).take 3).length <= 3:=by simp; omega
 have h3:(256:Int) ^ ((zs.drop i).take 3).length <= 16777216:=by
  generalize ((zs.drop i).take 3).length = m at h2
  match m,h2 with
  | 0,_=> decide
  | 1,_=> decide
  | 2,_=> decide
  | 3,_=> decide
 exact ⟨Pl.num_nonneg (Pl.isB_take (Pl.isB_drop hb i) 3),by omega⟩
theorem okW_one:okW [3]:=by
 intro x hx
 simp at hx
 subst hx
 rfl
theorem rdn_part {X:Nat -> Prop} {w:World} {b off n:Nat} {zs:List Int} (h:RdN X w (some ⟨b,off,none⟩) n zs) (i k:Nat) (hk:i + k <= n) (h0:0 < n):RdN X w (some ⟨b,off + i,none⟩) k ((zs.drop i).take k):=by
 obtain ⟨h1,h2,h3⟩:=h
 rcases h3 with h3 | ⟨b',o',e,hb,hx,hc⟩
 ·omega
 ·cases e
  refine ⟨by simp; omega,Pl.isB_take (Pl.isB_drop h2 _) _,.inr ⟨b,off + i,rfl,hb,hx,fun t ht=> ?_⟩⟩
  rw [Nat.add_assoc,hc (i + t) (by omega)]
  simp [List.getElem?_take_of_lt ht]
theorem beq_cast (t:Nat):decide (t = 0) = ((t:Int) == 0):=by
 rw [Bool.eq_iff_iff]
 simp
def lenV:Value -> Nat
 | .slice _ n _=> n
 | _=> 0
theorem rd_part {w:World} {b off n:Nat} {zs:List Int} {B:Nat} (h:Rd B w (some ⟨b,off,none⟩) n zs) (i k:Nat) (hk:i + k <= n) (hb:b < B):Rd B w (some ⟨b,off + i,none⟩) k ((zs.drop i).take k):=by
 obtain ⟨h1,h2,h3⟩:=h
 refine ⟨by simp; omega,Pl.isB_take (Pl.isB_drop h2 _) _,.inr ⟨b,off + i,rfl,hb,fun t ht=> ?_⟩⟩
 rcases h3 with h3 | ⟨b',o',e,_,hc⟩
 ·omega
 ·cases e
  rw [Nat.add_assoc,hc (i + t) (by omega)]
  simp [List.getElem?_take_of_lt ht]
theorem putsOf_any (X:Nat -> Prop) (a:Option Addr) (n cp:Nat) (zs:List Int) (w:World) (hRX:RdN X w a n zs) (hcp:n <= cp) (hn:n <= 1073741823) :
  Calls Tryz.prog 157 #[.slice a n cp] w fun e w'=> ∃ pv ps cq,e = .returned (.tuple #[.slice pv (n / 515) cq,.bool (decide (n % 515 = 0))]) /\ ps.map Pm.put = putsZ zs /\ ps.length = n / 515 /\ (∀ p ∈ ps,0 <= p.at_ /\ p.data.length = 512 /\ RdN X w p.ad 512 p.data) /\ w'.ownsRow w.heap.size 184 2 (.slice pv (n / 515) cq) (n / 515) (pmCells ps) /\ Below w.heap.size w w':=by
 have hR:=hRX.rd
 have HRX:=hid hRX
 clear hRX
 have hl:=hR.1
 obtain ⟨b,off,hbo⟩:∃ b off,515 <= n -> a = some ⟨b,off,none⟩ /\ b < w.heap.size:=by
  rcases hR.2.2 with e | ⟨b,off,e,hb,_⟩
  ·exact ⟨0,0,fun q=> by omega⟩
  ·exact ⟨b,off,fun _=> ⟨e,hb⟩⟩
 obtain ⟨i68,hi68,hz68,hs68,hb68⟩:=info_parts info68
 have R0:Hid ((w.alloc (.cells #[] 184)).ownsRow w.heap.size 184 2 (.slice (some ⟨w.heap.size,0,none⟩) 0 0) 0 []):=World.ownsRow_lit w #[] 0 (Nat.le_refl _) (by decide) rfl
 have B0:Hid (Below w.heap.size w (w.alloc (.cells #[] 184))):=(Below.refl w.heap.size w).alloc (Nat.le_refl _) _
 by_cases h5:515 <= n
 ·obtain ⟨rfl,hbw⟩:=hbo h5
  have HR:=hid hR
  clear hR hbo
  go_enter Tryz.func157,Tryz.ntmps157
  go_wp2_with fail
  go_loopw [0,4] (fun dv pv wr=> ∃ i:Nat,515 * i <= n /\ (∃ av,dv = .slice av (n - 515 * i) (cp - 515 * i) /\ (515 <= n - 515 * i -> av = some ⟨b,off + 515 * i,none⟩)) /\ ∃ g cq,pv = .slice (some ⟨g,0,none⟩) i cq /\ wr.ownsRow w.heap.size 184 2 (.slice (some ⟨g,0,none⟩) i cq) i (pmCells ((List.range i).map (putM zs b off cp))) /\ Below w.heap.size w wr) (fun dv _ _=> lenV dv)
  case atStart=> exact ⟨0,by omega,⟨_,rfl,fun _=> rfl⟩,_,_,rfl,R0.out,B0.out⟩
  case round=>
   clear R0 B0
   obtain ⟨i,hi,⟨av,rfl,hav⟩,g,cq,rfl,hrow,hbt⟩:=hrel
   by_cases hr5:515 <= n - 515 * i
   ·have hav2:=hav hr5
    subst hav2
    clear hav
    have hgl:=(World.ownsRow.lt hrow g rfl).2
    obtain ⟨w1,hw1⟩:∃ w1,w1 = wr.alloc (.cells #[.int .i64 3] 3):=⟨_,rfl⟩
    have b1:Below wr.heap.size wr w1:=by rw [hw1]; exact (Below.refl _ _).alloc (Nat.le_refl _) _
    have z1:w1.heap.size = wr.heap.size + 1:=by rw [hw1]; simp
    have hsw:=hbt.size
    have hR3:Rd w1.heap.size w1 (some ⟨b,off + 515 * i,none⟩) 3 ((zs.drop (515 * i)).take 3):=((rd_part HR.out (515 * i) 3 (by omega) hbw).below (hbt.trans (b1.mono hsw))).mono (by omega)
    have hRI:RdI w1.heap.size w1 (some ⟨wr.heap.size,0,none⟩) 1 [3]:=⟨rfl,.inr ⟨wr.heap.size,0,rfl,by omega,fun t ht=> by
     rw [hw1]
     rcases t with _ | t
     ·exact cell_new rfl 0 _ rfl
     ·omega⟩⟩
    obtain ⟨v0,hv0⟩:∃ v0,v0 = Pl.num ((zs.drop (515 * i)).take 3):=⟨_,rfl⟩
    have hvk:valK ((zs.drop (515 * i)).take 3) [3] 0 = v0:=by rw [hv0]; simp [valK,sumW,List.take_take]
    have hn3:=num3 HR.out.2.1 (515 * i)
    rw [<- hv0] at hn3
    have HU:=hid (Unpack_ok (some ⟨b,off + 515 * i,none⟩) (some ⟨wr.heap.size,0,none⟩) 3 (cp - 515 * i) 1 1 ((zs.drop (515 * i)).take 3) [3] w1 (by omega) (by omega) hR3 hRI okW_one rfl (fun k hk=> by
     rcases k with _ | k
     ·rw [hvk]; omega
     ·omega))
    rw [show vals ((zs.drop (515 * i)).take 3) [3] 1 = [v0] by simp [vals,hvk]] at HU
    have HV:=hid (And.intro hv0 hn3)
    have HBt:=hid hbt
    have HB1:=hid b1
    have HRow0:=hid hrow
    have HGW:Hid (w.heap.size <= g):=(World.ownsRow.lt hrow g rfl).1
    obtain ⟨r,hr⟩:∃ r,r = n - 515 * i:=⟨_,rfl⟩
    obtain ⟨r',hr'⟩:∃ r',r' = cp - 515 * i:=⟨_,rfl⟩
    obtain ⟨o,ho⟩:∃ o,o = off + 515 * i:=⟨_,rfl⟩
    rw [<- hr] at hr5
    rw [<- hr',<- ho] at HU
    rw [<- hr,<- hr',<- ho]
    have HO:=hid (And.intro hr (And.intro hr' ho))
    have hrr:r <= r':=by omega
    have hi7:i <= 1073741823:=by omega
    have y1:¬ r' = 3:=by omega
    have x1:(515:Int) <= (r:Int):=by omega
    have x2:(515:Int) <= (r':Int):=by omega
    have x3:(3:Int) <= (r':Int):=by omega
    have x4:(r:Int) <= (r':Int):=by omega
    clear hrow hbt b1 hR3 hRI hvk hn3 hv0 hr hr' ho
    go_wp2_with fail
    rw [<- hw1]
    refine Calls.mono HU.out ?_
    rintro e w2 ⟨g3,rfl,hg3a,hb3,b2⟩
    have c0:=hb3.cell 0 (by simp)
    simp at c0
    have hg3:=hb3.lt
    have hgg:g ≠ g3:=by omega
    have hgw:w.heap.size <= g:=HGW.out
    have HB2:=hid (HB1.out.trans (b2.mono HB1.out.size))
    have HRow:=hid (owns_below HRow0.out ((HB2.out).trans ((Below.refl _ _).alloc HB2.out.size (.cells #[.int .i64 v0,.slice (some ⟨b,o + 3,none⟩) 512 (r' - 3)] 184))))
    clear hb3 b2 HU hw1 HRow0
    go_wp2_with fail
    refine wp_region_noPanic ?_
    refine wp_region_held_drew (S:=fun w'=> w'.cell? ⟨g3,0,none⟩ = some (.int .i64 v0)) (by kernel_rfl) c0 (fun hSS=> ?_)
    refine wpAnyH_take (i:=0) (v:=?v0) rfl (by kernel_rfl) (by kernel_rfl) (by kernel_rfl) (fun _ _ _ h=> h) (Or.inl ⟨by rfl,?hy0⟩) hSS ?_
    case hy0=> (intro w9 hSw; (try dsimp only at hSw); (try go_split_ands); go_simp; try with_reducible rfl)
    simp only [Act.put,List.setIfInBounds_toArray]
    refine wpAnyH_take (i:=1) (v:=?v1) rfl (by kernel_rfl) (by kernel_rfl) (by kernel_rfl) (fun _ _ _ h=> h) (Or.inl ⟨by rfl,?hy1⟩) hSS ?_
    case hy1=> (intro w9 hSw; (try dsimp only at hSw); (try go_split_ands); go_simp; try with_reducible rfl)
    simp only [Act.put]
    refine wpAnyH_take (i:=2) (v:=?v2) rfl (by kernel_rfl) (by kernel_rfl) (by kernel_rfl) (fun _ _ _ h=> h) (Or.inl ⟨by rfl,?hy2⟩) hSS ?_
    case hy2=> (intro w9 hSw; (try dsimp only at hSw); (try go_split_ands); go_simp; try with_reducible rfl)
    simp only [Act.put]
    refine wpAnyH_take (i:=3) (v:=?v3) rfl (by kernel_rfl) (by kernel_rfl) (by kernel_rfl) (fun _ _ _ h=> h) (Or.inl ⟨by rfl,?hy3⟩) hSS ?_
    case hy3=> (intro w9 hSw; (try dsimp only at hSw); (try go_split_ands); go_simp; try with_reducible rfl)
    simp only [Act.put]
    refine wpAnyH_take (i:=4) (v:=?v4) rfl (by kernel_rfl) (by kernel_rfl) (by kernel_rfl) (fun _ _ _ h=> h) (Or.inl ⟨by rfl,?hy4⟩) hSS ?_
    case hy4=> (intro w9 hSw; (try dsimp only at hSw); (try go_split_ands); go_simp; try with_reducible rfl)
    simp only [Act.put]
    refine wpAnyH_take (i:=5) (v:=?v5) rfl (by kernel_rfl) (by kernel_rfl) (by kernel_rfl) (fun _ _ _ h=> h) (Or.inl ⟨by rfl,?hy5⟩) hSS ?_
    case hy5=> (intro w9 hSw; (try dsimp only at hSw); (try go_split_ands); go_simp; try with_reducible rfl)
    simp only [Act.put]
    refine wpAnyH_take (i:=6) (v:=?v6) rfl (by kernel_rfl) (by kernel_rfl) (by kernel_rfl) (fun _ _ _ h=> h) (Or.inl ⟨by rfl,?hy6⟩) hSS ?_
    case hy6=> (intro w9 hSw; (try dsimp only at hSw); (try go_split_ands); go_simp; try with_reducible rfl)
    simp only [Act.put]
    refine wpAnyH_ready (rs:=[7]) (by kernel_rfl) (by simp) (AllReadyH.cons (i:=7) rfl (fun K9 hK9=> ?_) AllReadyH.nil)
    go_simp
    refine hK9.out _ _ ((World.cell?_alloc_past _ _ _ hg3).trans c0) (fun hSS2=> ?_)
    clear hK9 K9 hSS
    refine wpAnyH_ready (rs:=[8]) (by kernel_rfl) (by simp) (AllReadyH.cons (i:=8) rfl (fun K9 hK9=> ?_) AllReadyH.nil)
    refine step_append_lies _ (by rfl) _ _ _ (by rfl) w.heap.size 184 i68 (.agg #[.int .i64 0,.slice none 0 0]) 2 32 Tryz.underlying129 hi68 hz68 hs68 hb68 rfl (by decide) _ i _ (by rfl) (by exact HRow.out) ⟨w2.heap.size,0,none⟩ 1 1 [.int .i64 v0,.slice (some ⟨b,o + 3,none⟩) 512 (r' - 3)] (by rfl) (by rfl) (by exact news2 w2 _ _ _) (by intro u hu; simp at hu; rcases hu with rfl | rfl <;> rfl) (by decide) (by unfold maxLen; omega) (by omega) (by have:=HBt.out.size; simp; omega) (w2.heap.size + 1) (by simp) ?_
    intro g4 cap4 w6 ho4 hg4 hlie4 _
    have hg5:((w2.alloc (.cells #[.int .i64 v0,.slice (some ⟨b,o + 3,none⟩) 512 (r' - 3)] 184)).drew).grownBy w6 (some g):=hg4
    have q0:w6.cell? ⟨g3,0,none⟩ = some (.int .i64 v0):=(World.cell?_of_block (hg5.block g3 (by simp; omega) (fun e=> hgg (by injection e with e; exact e.symm)))).trans ((World.cell?_alloc_past _ _ _ hg3).trans c0)
    have FIN0:=hid (And.intro ho4 hg5)
    clear ho4 hg4 hg5 hlie4
    dsimp [Act.put]
    refine hK9.out _ _ q0 (fun hSS3=> ?_)
    clear hK9 K9 hSS2
    refine wpAnyH_take (i:=9) (v:=?v9) rfl (by kernel_rfl) (by kernel_rfl) (by kernel_rfl) (fun _ _ _ h=> h) (Or.inl ⟨by rfl,?hy9⟩) hSS3 ?_
    case hy9=> (intro w9 hSw; (try dsimp only at hSw); go_simp; try with_reducible rfl)
    dsimp [Act.put]
    refine wpAnyH_done (by kernel_rfl) (NoPanic.normal ?_) _
    obtain ⟨hr,hr',ho⟩:=HO.out
    have hpm:pmCells ((List.range (i + 1)).map (putM zs b off cp)) = pmCells ((List.range i).map (putM zs b off cp)) ++ [.int .i64 v0,.slice (some ⟨b,o + 3,none⟩) 512 (r' - 3)]:=by
     rw [List.range_succ,List.map_append]
     show pmCells (_ ++ [putM zs b off cp i]) = _
     rw [pmCells_snoc]
     have hdl:((zs.drop (515 * i + 3)).take 512).length = 512:=by rw [List.length_take,List.length_drop]; omega
     simp only [putM,hdl]
     rw [<- HV.out.1,ho,hr',Nat.add_assoc]
    have hrow6:w6.ownsRow w.heap.size 184 2 (.slice (some ⟨g4,0,none⟩) (i + 1) cap4) (i + 1) (pmCells ((List.range (i + 1)).map (putM zs b off cp))):=by rw [hpm]; exact FIN0.out.1
    have bX:But (fun x=> w.heap.size <= x) w w6:=(((But.of_below HBt.out (X:=fun x=> w.heap.size <= x)).trans (But.of_below HB2.out)).alloc (.cells #[.int .i64 v0,.slice (some ⟨b,o + 3,none⟩) 512 (r' - 3)] 184)).drew.of_grown FIN0.out.2 (fun x e _=> by cases e; exact hgw)
    have FIN:=hid (And.intro hrow6 (bX.below (Nat.le_refl _) (fun k hk q=> by omega)))
    clear hpm hrow6 bX FIN0 HRow HB2 HB1 HBt q0 hSS3 c0 hg3 hgg hgl
    by_cases hr15:r' = 515
    ·go_wp2_with fail
     go_roundw
     case rel=> exact ⟨i + 1,by omega,⟨some ⟨b,off + 515 * i,none⟩,by rw [show n - 515 * (i + 1) = n - 515 * i - 515 by omega,show cp - 515 * (i + 1) = cp - 515 * i - 515 by omega],fun q=> by omega⟩,g4,cap4,rfl,FIN.out.1,FIN.out.2⟩
     case measure=> simp [lenV]; omega
    ·go_wp2_with fail
     go_roundw
     case rel=> exact ⟨i + 1,by omega,⟨some ⟨b,off + 515 * i + 515,none⟩,by rw [show n - 515 * (i + 1) = n - 515 * i - 515 by omega,show cp - 515 * (i + 1) = cp - 515 * i - 515 by omega],fun q=> by rw [show off + 515 * (i + 1) = off + 515 * i + 515 by omega]⟩,g4,cap4,rfl,FIN.out.1,FIN.out.2⟩
     case measure=> simp [lenV]; omega
   ·have hie:i = n / 515:=by omega
    have hx:¬ (515:Int) <= ((n - 515 * i:Nat):Int):=by omega
    have hdm:(decide (n % 515 = 0)) = (((n - 515 * i:Nat):Int) == 0):=by
     rw [show n - 515 * i = n % 515 by omega]
     exact beq_cast _
    have FIN:Hid (∃ ps:List Pm,ps.map Pm.put = putsZ zs /\ ps.length = n / 515 /\ (∀ p ∈ ps,0 <= p.at_ /\ p.data.length = 512 /\ RdN X w p.ad 512 p.data) /\ wr.ownsRow w.heap.size 184 2 (.slice (some ⟨g,0,none⟩) (n / 515) cq) (n / 515) (pmCells ps) /\ Below w.heap.size w wr):=by
     rw [hie] at hrow
     refine ⟨(List.range (n / 515)).map (putM zs b off cp),?_,by simp,fun p hp=> ?_,hrow,hbt⟩
     ·unfold putsZ
      rw [List.map_map,hl]
      rfl
     ·obtain ⟨k,hk,rfl⟩:=List.mem_map.1 hp
      rw [List.mem_range] at hk
      refine ⟨(num3 HR.out.2.1 _).1,?_,rdn_part HRX.out (515 * k + 3) 512 (by omega) (by omega)⟩
      show ((zs.drop (515 * k + 3)).take 512).length = 512
      rw [List.length_take,List.length_drop]
      omega
    have HD:=hid hdm
    have HI:=hid hie
    clear hrow hbt hdm hie hav hr5
    generalize n - 515 * i = r at *
    go_wp2
    go_ret2
    obtain ⟨ps,f1,f2,f3,f4,f5⟩:=FIN.out
    exact ⟨_,ps,cq,by rw [HD.out,<- HI.out]; rfl,f1,f2,f3,f4,f5⟩
 ·have hx:¬ (515:Int) <= (n:Int):=by omega
  have hn0:n / 515 = 0:=by omega
  have hdm:(decide (n % 515 = 0)) = ((n:Int) == 0):=by
   rw [show n % 515 = n by omega]
   exact beq_cast _
  have HD:=hid (And.intro hdm hn0)
  have HZ:Hid (putsZ zs = []):=by unfold putsZ; rw [hl,hn0]; rfl
  clear hdm hn0 hR hbo h5
  go_enter Tryz.func157,Tryz.ntmps157
  go_wp2_with fail
  refine wp_loop_rounds 1 ?_
  rw [rounds_succ]
  go_wp2
  go_ret2
  exact ⟨some ⟨w.heap.size,0,none⟩,[],0,by rw [HD.out.1,HD.out.2]; rfl,by rw [HZ.out]; rfl,by rw [HD.out.2]; rfl,fun p hp=> (by cases hp),by rw [HD.out.2]; exact R0.out,B0.out⟩
open Go.RowKit
def okFound (nb fr bl seq:Nat) (zs:List Int):Bool:=(decide (zs.length % 515 = 0) && decide ((seq:Int) < 1099511627776)) && (putsZ zs).all fun p=> decide (homeC nb fr bl (p.1:Int) = 0)
theorem okAll_eq {nb fr bl:Nat} {ps:List Pm} {ys:List (Nat × List Int)} (h:ps.map Pm.put = ys) (hp:∀ p ∈ ps,0 <= p.at_ /\ p.data.length = 512):(ps.all fun p=> decide (putC nb fr bl p.at_ p.data.length = 0)) = ys.all fun p=> decide (homeC nb fr bl (p.1:Int) = 0):=by
 subst h
 induction ps with
 | nil=> rfl
 | cons p ps ih=>
  obtain ⟨h0,h1⟩:=hp p (by simp)
  have e:decide (putC nb fr bl p.at_ p.data.length = 0) = decide (homeC nb fr bl ((p.at_.toNat:Nat):Int) = 0):=by
   rw [Int.toNat_of_nonneg h0]
   unfold putC
   by_cases q:homeC nb fr bl p.at_ = 0
   ·simp [q,h1]
   ·simp [q]
  simp only [List.map_cons,List.all_cons]
  rw [ih (fun x hx=> hp x (by simp [hx])),e]
  rfl
theorem rdp_of_owns {X:Nat -> Prop} {w:World} {B:Nat} {pv:Option Addr} {N cq:Nat} {ps:List Pm} (hrow:w.ownsRow B 184 2 (.slice pv N cq) N (pmCells ps)) (hl:ps.length = N) (hX:∀ k,B <= k -> ¬ X k) (hd:∀ p ∈ ps,RdN X w p.ad p.data.length p.data):RdP X w pv ps:=by
 refine ⟨hd,?_⟩
 by_cases h0:ps = []
 ·exact .inl h0
 ·refine .inr ?_
  rcases hrow.2 with ⟨e,q⟩ | ⟨g,cap,cur,e,hB,hh,_,_,_,hcur⟩
  ·exact absurd (List.length_eq_zero_iff.1 (by omega)) h0
  ·simp at e
   obtain ⟨rfl,rfl⟩:=e
   refine ⟨g,0,rfl,(Array.getElem?_eq_some_iff.1 hh).1,hX g hB,fun t p hp=> ?_⟩
   have ht:t < ps.length:=(List.getElem?_eq_some_iff.1 hp).1
   have hcl:(pmCells ps)[t * 2]? = some (.int .i64 p.at_) /\ (pmCells ps)[t * 2 + 1]? = some (.slice p.ad p.data.length p.cap):=by
    clear hrow hcur hl hd h0
    induction ps generalizing t with
    | nil=> cases hp
    | cons x xs ih=>
     cases t with
     | zero=>
      simp at hp
      subst hp
      exact ⟨rfl,rfl⟩
     | succ t=>
      have:=ih t (by simpa using hp) (by simpa using ht)
      have e1:pmCells (x :: xs) = [.int .i64 x.at_,.slice x.ad x.data.length x.cap] ++ pmCells xs:=rfl
      rw [e1,show (t + 1) * 2 = 2 + t * 2 by omega,List.getElem?_append_right (by simp),show 2 + t * 2 + 1 = 2 + (t * 2 + 1) by omega,List.getElem?_append_right (by simp)]
      simpa using this
   have hw:=World.ownsRow.cellAt hrow
   have hlen:(pmCells ps).length = N * 2:=hrow.1
   have c1:=hw (t * 2) (by omega)
   have c2:=hw (t * 2 + 1) (by omega)
   rw [Nat.zero_add]
   exact ⟨c1.trans hcl.1,c2.trans hcl.2⟩
def foundS (s:Js) (zs:List Int):Bool -> Js
 | true=> ⟨s.life,s.seq + 1,s.used,aheadP s.ah (putsZ zs)⟩
 | false=> s
def okSo (nb fr bl:Nat) (b0:Bool) (ps:List Pm):Bool:=b0 && ps.all fun p=> decide (putC nb fr bl p.at_ p.data.length = 0)
theorem okSo_snoc (nb fr bl:Nat) (b0:Bool) (ps:List Pm) (p:Pm):okSo nb fr bl b0 (ps ++ [p]) = (okSo nb fr bl b0 ps && decide (putC nb fr bl p.at_ p.data.length = 0)):=by
 unfold okSo
 rw [List.all_append,<- Bool.and_assoc]
 simp
theorem takeFound_any {Z:Nat -> Prop} {w:World} {j c p room nb K fr bl:Nat} {d:Pd} {s:Js} (h:Jq Z w j c p room nb K fr bl d s) (h1:fr + bl <= nb) (a:Option Addr) (n cp:Nat) (zs:List Int) (hR:RdN Z w a n zs) (hcp:n <= cp) (hn:n <= 1073741823) :
  Calls Tryz.prog 139 #[.pointer (some ⟨j,0,none⟩),.slice a n cp] w fun e w'=> e = .returned (.bool (okFound nb fr bl s.seq zs)) /\ (∃ Z',Jq Z' w' j c p room nb K fr bl d (foundS s zs (okFound nb fr bl s.seq zs)) /\ Gr Z Z' w) /\ But Z w w':=by
 have HP:=hid (putsOf_any Z a n cp zs w hR hcp hn)
 have hln:=hR.1
 have HJ:=hid h
 clear h hR hcp
 go_enter Tryz.func139,Tryz.ntmps139
 go_wp2_with fail
 refine Calls.mono HP.out ?_
 rintro e w1 ⟨pv,ps,cq,rfl,hps,hpl,hpp,hrow,b1⟩
 have hJ1:=HJ.out.cut.below b1
 obtain ⟨mv,hJb,_⟩:=hJ1.cells
 have HT:=hid (jtakesMore_any hJb)
 have hRP:RdP (fun k=> Z k /\ k < w.heap.size) w1 pv ps:=rdp_of_owns hrow hpl (fun k hk q=> by have:=q.2; omega) (fun p hp=> by
  obtain ⟨q0,q1,r1,r2,r3⟩:=hpp p hp
  rw [q1]
  refine ⟨r1,r2,?_⟩
  rcases r3 with r3 | ⟨b,off,r4,r5,r6,r7⟩
  ·exact .inl r3
  ·exact .inr ⟨b,off,r4,by have:=b1.size; omega,fun q=> r6 q.1,fun t ht=> (b1.cell (p:=⟨b,off + t,none⟩) r5).trans (r7 t ht)⟩)
 have HPS:=hid (And.intro hps (And.intro hpp hln))
 have HJ1:=hid hJ1
 have HRP:=hid hRP
 have HB1:=hid b1
 generalize hN:n / 515 = N at *
 have hN2:N <= 1073741823:=by omega
 have hall:=okAll_eq (nb:=nb) (fr:=fr) (bl:=bl) HPS.out.1 (fun p hp=> ⟨(HPS.out.2.1 p hp).1,(HPS.out.2.1 p hp).2.1⟩)
 clear hps hpp hrow b1 hJ1 hJb hRP HP HJ
 cases hd1:decide (n % 515 = 0)
 ·obtain ⟨b0,hb0⟩:∃ b0,b0 = false:=⟨_,rfl⟩
  have HE:Hid (okFound nb fr bl s.seq zs = okSo nb fr bl b0 ps):=by unfold okFound okSo; rw [hln,hd1,hb0,hall]; rfl
  have HSQ:Hid (b0 = true -> s.seq < 1099511627776):=fun q=> by rw [hb0] at q; cases q
  clear hall hd1 HT
  go_wp2_with fail
  go_loopw [6,21] (fun okv iv wr=> ∃ q:Nat,q <= N /\ iv = .int .i64 (q:Int) /\ okv = .bool (okSo nb fr bl b0 (ps.take q)) /\ Below w1.heap.size w1 wr) (fun _ iv _=> N - (intOf iv).toNat)
  case atStart=> exact ⟨0,Nat.zero_le _,rfl,(by simp [okSo,hb0]),Below.refl _ _⟩
  case round=>
   clear hb0
   obtain ⟨q,hq,rfl,rfl,hbt⟩:=hrel
   have hsw:=hbt.size
   by_cases hqn:q < N
   ·have hqn':(q:Int) < (N:Int):=by omega
    obtain ⟨pp,hpq⟩:∃ pp,ps[q]? = some pp:=⟨_,List.getElem?_eq_getElem (by omega)⟩
    obtain ⟨bk,off,rfl,hbk,hbZ,hcell⟩:∃ b off,pv = some ⟨b,off,none⟩ /\ b < w1.heap.size /\ ¬ (Z b /\ b < w.heap.size) /\ ∀ (t:Nat) (p:Pm),ps[t]? = some p -> w1.cell? ⟨b,off + t * 2,none⟩ = some (.int .i64 p.at_) /\ w1.cell? ⟨b,off + t * 2 + 1,none⟩ = some (.slice p.ad p.data.length p.cap):=by
     rcases HRP.out.2 with e | e
     ·rw [e] at hpq; cases hpq
     ·exact e
    obtain ⟨c1,c2⟩:=hcell q pp hpq
    replace c1:=(hbt.cell (p:=⟨bk,off + q * 2,none⟩) hbk).trans c1
    replace c2:=(hbt.cell (p:=⟨bk,off + q * 2 + 1,none⟩) hbk).trans c2
    obtain ⟨w2,hw2⟩:∃ w2,w2 = wr.alloc (.cells #[.int .i64 pp.at_,.slice pp.ad pp.data.length pp.cap] 184):=⟨_,rfl⟩
    have b2:Below wr.heap.size wr w2:=by rw [hw2]; exact (Below.refl _ _).alloc (Nat.le_refl _) _
    have n0:w2.cell? ⟨wr.heap.size,0,none⟩ = some (.int .i64 pp.at_):=by rw [hw2]; exact cell_new rfl 0 _ rfl
    have n1:w2.cell? ⟨wr.heap.size,1,none⟩ = some (.slice pp.ad pp.data.length pp.cap):=by rw [hw2]; exact cell_new rfl 1 _ rfl
    have hok:okSo nb fr bl b0 (ps.take (q + 1)) = (okSo nb fr bl b0 (ps.take q) && decide (putC nb fr bl pp.at_ pp.data.length = 0)):=by
     rw [List.take_add_one,hpq]
     exact okSo_snoc nb fr bl b0 (ps.take q) pp
    have HC:=hid (checkPut_any (HJ1.out.below (hbt.trans (b2.mono hsw))) h1 pp.at_ pp.ad pp.data.length pp.cap)
    have B2:=hid (hbt.trans (b2.mono hsw))
    have HOK:=hid hok
    clear hcell hbt b2 hok hpq
    generalize hpl2:pp.data.length = dl at *
    clear hpl2
    cases hok2:okSo nb fr bl b0 (ps.take q)
    ·go_wp2_with fail
     go_roundw
     case rel=> exact ⟨q + 1,by omega,by go_num,by rw [HOK.out,hok2]; rfl,by rw [<- hw2]; exact B2.out⟩
     case measure=> simp [intOf]; omega
    ·go_wp2_with fail
     rw [<- hw2]
     refine Calls.mono HC.out ?_
     rintro e w3 ⟨rfl,b3⟩
     have B3:=hid (B2.out.trans (b3.mono B2.out.size))
     clear b3 HC
     by_cases hcz:putC nb fr bl pp.at_ dl = 0
     ·have HZ:=hid hcz
      rw [hcz]
      clear hcz hw2 n0 n1 c1 c2
      go_wp2_with fail
      go_roundw
      case rel=> exact ⟨q + 1,by omega,by go_num,by rw [HOK.out,hok2,HZ.out]; rfl,B3.out⟩
      case measure=> simp [intOf]; omega
     ·have HZ:=hid hcz
      generalize putC nb fr bl pp.at_ dl = cz at *
      clear hw2 n0 n1 c1 c2
      go_wp2_with fail
      go_roundw
      case rel=> exact ⟨q + 1,by omega,by go_num,by rw [HOK.out,hok2,decide_eq_false HZ.out,show (cz == 0) = false by simpa using HZ.out]; rfl,B3.out⟩
      case measure=> simp [intOf]; omega
   ·have hqn':¬ (q:Int) < (N:Int):=by omega
    have hqe:ps.take q = ps:=List.take_of_length_le (by omega)
    rw [hqe]
    have HJr:=hid (HJ1.out.below hbt)
    have hbw:Below w.heap.size w wr:=HB1.out.trans (hbt.mono HB1.out.size)
    cases hok2:okSo nb fr bl b0 ps
    ·have FIN:Hid (okFound nb fr bl s.seq zs = false /\ (∃ Z',Jq Z' wr j c p room nb K fr bl d s /\ Gr Z Z' w) /\ But Z w wr):=⟨by rw [HE.out,hok2],⟨_,HJr.out,fun k _ r=> r.1⟩,But.of_below hbw⟩
     clear hqe hok2 hbt hbw HJr
     go_wp2
     go_ret
     rw [FIN.out.1]
     exact ⟨rfl,FIN.out.2.1,FIN.out.2.2⟩
    ·have hall:(b0 && ps.all fun p=> decide (putC nb fr bl p.at_ p.data.length = 0)) = true:=hok2
     rw [Bool.and_eq_true] at hall
     have hsq:s.seq < 1099511627776:=HSQ.out hall.1
     have hput:∀ p ∈ ps,0 <= p.at_ /\ p.at_ < nb /\ p.data.length = 512:=fun p hp=> by
      have:=List.all_eq_true.1 hall.2 p hp
      simp only [decide_eq_true_eq] at this
      have:=putC_zero this
      exact ⟨this.2.1,this.2.2.1,this.1⟩
     have HTk:=hid (take_any HJr.out hsq pv cq ps (HRP.out.but (But.of_below hbt (X:=fun _=> False)) (fun k _ q=> q.elim) _ (fun k _ q=> q)) hput (by omega))
     rw [hpl] at HTk
     have FIN0:=hid (And.intro (show okFound nb fr bl s.seq zs = true by rw [HE.out,hok2]) hbw)
     clear hqe hok2 hbt hbw HJr hall hsq hput
     go_wp2_with fail
     refine Calls.mono HTk.out ?_
     rintro e w3 ⟨rfl,⟨Z3,hJ3,hG3⟩,b3⟩
     have FIN:Hid ((∃ Z',Jq Z' w3 j c p room nb K fr bl d ⟨s.life,s.seq + 1,s.used,aheadP s.ah (putsZ zs)⟩ /\ Gr Z Z' w) /\ But Z w w3):=by
      have hs:=FIN0.out.2.size
      rw [HPS.out.1] at hJ3
      exact ⟨⟨Z3,hJ3,fun k hk r=> (hG3 k (by omega) r).1⟩,(But.of_below FIN0.out.2).comp b3 (fun k _ r=> r.1)⟩
     clear hJ3 hG3 b3 HTk
     go_wp2
     go_ret
     rw [FIN0.out.1]
     exact ⟨rfl,FIN.out.1,FIN.out.2⟩
 ·obtain ⟨b0,hb0⟩:∃ b0,b0 = decide ((s.seq:Int) < 1099511627776):=⟨_,rfl⟩
  have HE:Hid (okFound nb fr bl s.seq zs = okSo nb fr bl b0 ps):=by unfold okFound okSo; rw [hln,hd1,hb0,hall,Bool.true_and]; exact hid rfl
  have HSQ:Hid (b0 = true -> s.seq < 1099511627776):=fun q=> by rw [hb0] at q; have:=of_decide_eq_true q; omega
  rw [<- hb0] at HT
  clear hall hd1
  go_wp2_with fail
  refine Calls.mono HT.out ?_
  rintro e w9 ⟨rfl,hw9⟩
  rw [hw9]
  clear HT hw9
  go_wp2_with fail
  go_loopw [6,21] (fun okv iv wr=> ∃ q:Nat,q <= N /\ iv = .int .i64 (q:Int) /\ okv = .bool (okSo nb fr bl b0 (ps.take q)) /\ Below w1.heap.size w1 wr) (fun _ iv _=> N - (intOf iv).toNat)
  case atStart=> exact ⟨0,Nat.zero_le _,rfl,(by simp [okSo,hb0]),Below.refl _ _⟩
  case round=>
   clear hb0
   obtain ⟨q,hq,rfl,rfl,hbt⟩:=hrel
   have hsw:=hbt.size
   by_cases hqn:q < N
   ·have hqn':(q:Int) < (N:Int):=by omega
    obtain ⟨pp,hpq⟩:∃ pp,ps[q]? = some pp:=⟨_,List.getElem?_eq_getElem (by omega)⟩
    obtain ⟨bk,off,rfl,hbk,hbZ,hcell⟩:∃ b off,pv = some ⟨b,off,none⟩ /\ b < w1.heap.size /\ ¬ (Z b /\ b < w.heap.size) /\ ∀ (t:Nat) (p:Pm),ps[t]? = some p -> w1.cell? ⟨b,off + t * 2,none⟩ = some (.int .i64 p.at_) /\ w1.cell? ⟨b,off + t * 2 + 1,none⟩ = some (.slice p.ad p.data.length p.cap):=by
     rcases HRP.out.2 with e | e
     ·rw [e] at hpq; cases hpq
     ·exact e
    obtain ⟨c1,c2⟩:=hcell q pp hpq
    replace c1:=(hbt.cell (p:=⟨bk,off + q * 2,none⟩) hbk).trans c1
    replace c2:=(hbt.cell (p:=⟨bk,off + q * 2 + 1,none⟩) hbk).trans c2
    obtain ⟨w2,hw2⟩:∃ w2,w2 = wr.alloc (.cells #[.int .i64 pp.at_,.slice pp.ad pp.data.length pp.cap] 184):=⟨_,rfl⟩
    have b2:Below wr.heap.size wr w2:=by rw [hw2]; exact (Below.refl _ _).alloc (Nat.le_refl _) _
    have n0:w2.cell? ⟨wr.heap.size,0,none⟩ = some (.int .i64 pp.at_):=by rw [hw2]; exact cell_new rfl 0 _ rfl
    have n1:w2.cell? ⟨wr.heap.size,1,none⟩ = some (.slice pp.ad pp.data.length pp.cap):=by rw [hw2]; exact cell_new rfl 1 _ rfl
    have hok:okSo nb fr bl b0 (ps.take (q + 1)) = (okSo nb fr bl b0 (ps.take q) && decide (putC nb fr bl pp.at_ pp.data.length = 0)):=by
     rw [List.take_add_one,hpq]
     exact okSo_snoc nb fr bl b0 (ps.take q) pp
    have HC:=hid (checkPut_any (HJ1.out.below (hbt.trans (b2.mono hsw))) h1 pp.at_ pp.ad pp.data.length pp.cap)
    have B2:=hid (hbt.trans (b2.mono hsw))
    have HOK:=hid hok
    clear hcell hbt b2 hok hpq
    generalize hpl2:pp.data.length = dl at *
    clear hpl2
    cases hok2:okSo nb fr bl b0 (ps.take q)
    ·go_wp2_with fail
     go_roundw
     case rel=> exact ⟨q + 1,by omega,by go_num,by rw [HOK.out,hok2]; rfl,by rw [<- hw2]; exact B2.out⟩
     case measure=> simp [intOf]; omega
    ·go_wp2_with fail
     rw [<- hw2]
     refine Calls.mono HC.out ?_
     rintro e w3 ⟨rfl,b3⟩
     have B3:=hid (B2.out.trans (b3.mono B2.out.size))
     clear b3 HC
     by_cases hcz:putC nb fr bl pp.at_ dl = 0
     ·have HZ:=hid hcz
      rw [hcz]
      clear hcz hw2 n0 n1 c1 c2
      go_wp2_with fail
      go_roundw
      case rel=> exact ⟨q + 1,by omega,by go_num,by rw [HOK.out,hok2,HZ.out]; rfl,B3.out⟩
      case measure=> simp [intOf]; omega
     ·have HZ:=hid hcz
      generalize putC nb fr bl pp.at_ dl = cz at *
      clear hw2 n0 n1 c1 c2
      go_wp2_with fail
      go_roundw
      case rel=> exact ⟨q + 1,by omega,by go_num,by rw [HOK.out,hok2,decide_eq_false HZ.out,show (cz == 0) = false by simpa using HZ.out]; rfl,B3.out⟩
      case measure=> simp [intOf]; omega
   ·have hqn':¬ (q:Int) < (N:Int):=by omega
    have hqe:ps.take q = ps:=List.take_of_length_le (by omega)
    rw [hqe]
    have HJr:=hid (HJ1.out.below hbt)
    have hbw:Below w.heap.size w wr:=HB1.out.trans (hbt.mono HB1.out.size)
    cases hok2:okSo nb fr bl b0 ps
    ·have FIN:Hid (okFound nb fr bl s.seq zs = false /\ (∃ Z',Jq Z' wr j c p room nb K fr bl d s /\ Gr Z Z' w) /\ But Z w wr):=⟨by rw [HE.out,hok2],⟨_,HJr.out,fun k _ r=> r.1⟩,But.of_below hbw⟩
     clear hqe hok2 hbt hbw HJr
     go_wp2
     go_ret
     rw [FIN.out.1]
     exact ⟨rfl,FIN.out.2.1,FIN.out.2.2⟩
    ·have hall:(b0 && ps.all fun p=> decide (putC nb fr bl p.at_ p.data.length = 0)) = true:=hok2
     rw [Bool.and_eq_true] at hall
     have hsq:s.seq < 1099511627776:=HSQ.out hall.1
     have hput:∀ p ∈ ps,0 <= p.at_ /\ p.at_ < nb /\ p.data.length = 512:=fun p hp=> by
      have:=List.all_eq_true.1 hall.2 p hp
      simp only [decide_eq_true_eq] at this
      have:=putC_zero this
      exact ⟨this.2.1,this.2.2.1,this.1⟩
     have HTk:=hid (take_any HJr.out hsq pv cq ps (HRP.out.but (But.of_below hbt (X:=fun _=> False)) (fun k _ q=> q.elim) _ (fun k _ q=> q)) hput (by omega))
     rw [hpl] at HTk
     have FIN0:=hid (And.intro (show okFound nb fr bl s.seq zs = true by rw [HE.out,hok2]) hbw)
     clear hqe hok2 hbt hbw HJr hall hsq hput
     go_wp2_with fail
     refine Calls.mono HTk.out ?_
     rintro e w3 ⟨rfl,⟨Z3,hJ3,hG3⟩,b3⟩
     have FIN:Hid ((∃ Z',Jq Z' w3 j c p room nb K fr bl d ⟨s.life,s.seq + 1,s.used,aheadP s.ah (putsZ zs)⟩ /\ Gr Z Z' w) /\ But Z w w3):=by
      have hs:=FIN0.out.2.size
      rw [HPS.out.1] at hJ3
      exact ⟨⟨Z3,hJ3,fun k hk r=> (hG3 k (by omega) r).1⟩,(But.of_below FIN0.out.2).comp b3 (fun k _ r=> r.1)⟩
     clear hJ3 hG3 b3 HTk
     go_wp2
     go_ret
     rw [FIN0.out.1]
     exact ⟨rfl,FIN.out.1,FIN.out.2⟩
open Go.RowKit
theorem app145 (ty:TypeId) (a:Option Addr) (n c:Nat) (x:Value) (w:World):(Builtin.append_ #[40,207] ty #[.slice a n c,x]).run Tryz.prog w = (Builtin.append_ #[40,40] ty #[.slice a n c,x]).run Tryz.prog w:=by
 simp [Builtin.append_,run_underlying Tryz.underlying40,run_underlying Tryz.underlying207]
theorem app146 (ty:TypeId) (a:Option Addr) (n c:Nat) (x:Value) (w:World):(Builtin.append_ #[40,208] ty #[.slice a n c,x]).run Tryz.prog w = (Builtin.append_ #[40,40] ty #[.slice a n c,x]).run Tryz.prog w:=by
 simp [Builtin.append_,run_underlying Tryz.underlying40,run_underlying Tryz.underlying208]
theorem as5_143 (u:Value) (w:World):Sem.run Tryz.prog (Instr.typeAssert (.iface 215 u) 204 207 true) w = .ok (.tuple #[.slice none 0 0,.bool false]) w:=by kernel_rfl
theorem as5_145 (u:Value) (w:World):Sem.run Tryz.prog (Instr.typeAssert (.iface 207 u) 204 207 true) w = .ok (.tuple #[u,.bool true]) w:=by kernel_rfl
theorem as5_146 (u:Value) (w:World):Sem.run Tryz.prog (Instr.typeAssert (.iface 208 u) 204 207 true) w = .ok (.tuple #[.slice none 0 0,.bool false]) w:=by kernel_rfl
theorem as5_nil (w:World):Sem.run Tryz.prog (Instr.typeAssert .nilIface 204 207 true) w = .ok (.tuple #[.slice none 0 0,.bool false]) w:=by kernel_rfl
theorem as6_143 (u:Value) (w:World):Sem.run Tryz.prog (Instr.typeAssert (.iface 215 u) 204 208 true) w = .ok (.tuple #[.slice none 0 0,.bool false]) w:=by kernel_rfl
theorem as6_146 (u:Value) (w:World):Sem.run Tryz.prog (Instr.typeAssert (.iface 208 u) 204 208 true) w = .ok (.tuple #[u,.bool true]) w:=by kernel_rfl
theorem as6_nil (w:World):Sem.run Tryz.prog (Instr.typeAssert .nilIface 204 208 true) w = .ok (.tuple #[.slice none 0 0,.bool false]) w:=by kernel_rfl
theorem grow_bytes {w:World} {B n:Nat} {a:Option Addr} {c:Nat} {zs:List Int} (ty:TypeId) (ho:w.ownsRow B 5 1 (.slice a n c) n (zs.map (Value.int .u8))) {g:Nat} {body:List Int} (hB:Blk .u8 5 w g body) (hb:body.length <= 497) (hn:n <= 1073741823) (hw:B <= w.heap.size) :
  ∃ a' c' w',(Builtin.append_ #[40,40] ty #[.slice a n c,.slice (some ⟨g,0,none⟩) body.length body.length]).run Tryz.prog w = .ok (.slice a' (n + body.length) c') w' /\ w'.ownsRow B 5 1 (.slice a' (n + body.length) c') (n + body.length) ((zs ++ body).map (Value.int .u8)) /\ But (fun k=> B <= k) w w':=by
 obtain ⟨i0,hi,hz0,hz1,hz2⟩:=info_parts info5
 obtain ⟨v',w',hr,h2,h3,_,_⟩:=run_append_own_at (P:=Tryz.prog) w B 40 ty 5 i0 (.int .u8 0) 1 1 Tryz.underlying40 hi hz0 hz1 hz2 rfl (by decide) (.slice a n c) n (zs.map (Value.int .u8)) ho ⟨g,0,none⟩ body.length body.length (body.map (Value.int .u8)) (by simp) (fun j u hu=> by
   rw [Addr.add_lit,Nat.zero_add]
   have hj:j < body.length:=by have:=(List.getElem?_eq_some_iff.1 hu).1; simpa using this
   rw [hB.cell j hj]
   simp [hj] at hu
   rw [<- hu]
   simp [hj]) (fun u hu=> by obtain ⟨z,_,rfl⟩:=List.mem_map.1 hu; rfl) (by unfold maxLen; omega) (by omega) hw
 obtain ⟨a',c',rfl,_⟩:=owns_slice h2
 refine ⟨a',c',w',hr,by rw [List.map_append]; exact h2,(But.refl _ w).of_grown h3 (fun x e hx=> ?_)⟩
 exact (World.ownsRow.lt ho x e).1
theorem rdn_of_owns {X:Nat -> Prop} {w:World} {B n:Nat} {a:Option Addr} {c:Nat} {zs:List Int} (ho:w.ownsRow B 5 1 (.slice a n c) n (zs.map (Value.int .u8))) (hb:Pl.isB zs) (hX:∀ k,B <= k -> ¬ X k):RdN X w a n zs /\ n <= c:=by
 have hl:zs.length = n:=by have:=ho.1; simpa using this
 rcases ho.2 with ⟨e,q⟩ | ⟨g,cap,cur,e,hB,hh,hc,_⟩
 ·cases e
  exact ⟨⟨hl,hb,.inl q⟩,by omega⟩
 ·simp at e
  obtain ⟨rfl,rfl⟩:=e
  refine ⟨⟨hl,hb,.inr ⟨g,0,rfl,(Array.getElem?_eq_some_iff.1 hh).1,hX g hB,fun t ht=> ?_⟩⟩,hc⟩
  have:=World.ownsRow.cellAt ho t (by omega)
  rw [Nat.zero_add,this]
  simp [show t < zs.length by omega]
def logScan (nb fr bl:Nat) (rd:Nat -> List Int):Nat -> Nat -> List Int -> Js -> Js
 | 0,_,_,s=> s
 | k + 1,i,found,s=>
  match unZ (rd (fr + 1 + i)) with
  | none=> s
  | some (kd,l,body)=>
   if l ≠ (s.life:Int) \/ l = 0 then s
   else if kd = 3 then logScan nb fr bl rd k (i + 1) (found ++ body) s
   else if kd = 4 then
    if okFound nb fr bl s.seq (found ++ body) then logScan nb fr bl rd k (i + 1) [] ⟨s.life,s.seq + 1,i + 1,aheadP s.ah (putsZ (found ++ body))⟩ else s
   else s
end Go.Proofs.YthfojpcibnfmgaaGreat
