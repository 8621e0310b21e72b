import Derived.Test.YthfojpcibnfmgaaGreatG12
import Derived.Test.YthfojpcibnfmgaaGreatG08
import Derived.Deep.RegionHeld3
set_option maxRecDepth 100000
set_option maxHeartbeats 16000000
namespace Go.Proofs.YthfojpcibnfmgaaGreat
open Go.RowKit
def formatCmds (f b:Nat):List Cmd:=wipes f b f 1 ++ [.fl] ++ wipes f b (f + 1) (b - 1) ++ [.fl] ++ [.wr f (headZ f b (noS.life + 1) noS.seq)] ++ [.fl]
theorem Jq.toCq {Z:Nat -> Prop} {w:World} {j c p room nb K fr bl:Nat} {d:Pd} {s:Js} (h:Jq Z w j c p room nb K fr bl d s):Cq Z w c p room nb K d:=by
 obtain ⟨Zc,m,n,D,a,h⟩:=h
 exact h.cq.mono h.sub (Nat.le_refl _)
theorem format_turn {Z:Nat -> Prop} {w w0:World} {j c p room nb K fr bl k:Nat} {d:Pd} (h0:Jq Z w0 j c p room nb K fr bl d noS) (hb:But Z w w0) (hg:Gr Z Z w) (l0:k < w0.heap.size) (k0:¬ Z k) (hn:Jn nb fr bl noS) (hl:d.puts.length + nb + bl + 8 <= 1073741823) :
  Turn k (Did Z w j c p room nb K fr bl d (formatCmds fr bl) (beginS noS)) [((111:Nat),Value.pointer (some ⟨j,0,none⟩)),(95,.pointer (some ⟨c,0,none⟩)),(112,.pointer (some ⟨j,0,none⟩)),(95,.pointer (some ⟨c,0,none⟩)),(113,.pointer (some ⟨j,0,none⟩)),(95,.pointer (some ⟨c,0,none⟩))] w0:=by
 have hp:=fun cs=> d.runs_puts cs
 have z0:(d.runs []).1 = 0:=rfl
 have g0:=hg
 have b0:=hb
 unfold formatCmds
 refine Turn.jstep (done:=[]) (cs:=wipes fr bl fr 1) (rest:=[.fl] ++ wipes fr bl (fr + 1) (bl - 1) ++ [.fl] ++ [.wr fr (headZ fr bl (noS.life + 1) noS.seq)] ++ [.fl]) (by simp) z0 g0 b0 k0 l0 (Did.of_list (wipeHead_any h0 hn (by show d.puts.length <= _; omega))) (fun Z1 w1 z1 h1 g1 b1 k1 l1=> ?_)
 have p1:=hp ([] ++ wipes fr bl fr 1)
 simp [length_wipes] at p1
 refine Turn.jstep (done:=[] ++ wipes fr bl fr 1) (cs:=[.fl]) (rest:=wipes fr bl (fr + 1) (bl - 1) ++ [.fl] ++ [.wr fr (headZ fr bl (noS.life + 1) noS.seq)] ++ [.fl]) (by simp) z1 g1 b1 k1 l1 (Did.of_one (h1.flush (by simp; omega))) (fun Z2 w2 z2 h2 g2 b2 k2 l2=> ?_)
 have p2:=hp ([] ++ wipes fr bl fr 1 ++ [.fl])
 simp [length_wipes] at p2
 refine Turn.jstep (done:=[] ++ wipes fr bl fr 1 ++ [.fl]) (cs:=wipes fr bl (fr + 1) (bl - 1)) (rest:=[.fl] ++ [.wr fr (headZ fr bl (noS.life + 1) noS.seq)] ++ [.fl]) (by simp) z2 g2 b2 k2 l2 (Did.of_list (wipeLog_any h2 hn (by simp; omega))) (fun Z3 w3 z3 h3 g3 b3 k3 l3=> ?_)
 have p3:=hp ([] ++ wipes fr bl fr 1 ++ [.fl] ++ wipes fr bl (fr + 1) (bl - 1))
 simp [length_wipes] at p3
 refine Turn.jstep (done:=[] ++ wipes fr bl fr 1 ++ [.fl] ++ wipes fr bl (fr + 1) (bl - 1)) (cs:=[.fl]) (rest:=[.wr fr (headZ fr bl (noS.life + 1) noS.seq)] ++ [.fl]) (by simp) z3 g3 b3 k3 l3 (Did.of_one (h3.flush (by simp; omega))) (fun Z4 w4 z4 h4 g4 b4 k4 l4=> ?_)
 have p4:=hp ([] ++ wipes fr bl fr 1 ++ [.fl] ++ wipes fr bl (fr + 1) (bl - 1) ++ [.fl])
 simp [length_wipes] at p4
 refine Turn.jstep (done:=[] ++ wipes fr bl fr 1 ++ [.fl] ++ wipes fr bl (fr + 1) (bl - 1) ++ [.fl]) (cs:=[.wr fr (headZ fr bl (noS.life + 1) noS.seq)]) (rest:=[.fl]) (by simp) z4 g4 b4 k4 l4 (Did.of_one (beginLife_any h4 hn (by simp [noS]) (by simp; omega))) (fun Z5 w5 z5 h5 g5 b5 k5 l5=> ?_)
 have p5:=hp ([] ++ wipes fr bl fr 1 ++ [.fl] ++ wipes fr bl (fr + 1) (bl - 1) ++ [.fl] ++ [.wr fr (headZ fr bl (noS.life + 1) noS.seq)])
 simp [length_wipes] at p5
 refine Turn.jstep (done:=[] ++ wipes fr bl fr 1 ++ [.fl] ++ wipes fr bl (fr + 1) (bl - 1) ++ [.fl] ++ [.wr fr (headZ fr bl (noS.life + 1) noS.seq)]) (cs:=[.fl]) (rest:=[]) (by simp) z5 g5 b5 k5 l5 (Did.of_one (h5.flush (by simp; omega))) (fun Z6 w6 z6 h6 g6 b6 k6 l6=> ?_)
 exact Turn.jend (by simpa using z6) (by simpa using h6) g6 b6
def FormatP (Z:Nat -> Prop) (w:World) (c p room nb K:Nat) (d:Pd) (fr bl:Int) (e:Ending) (w':World):Prop :=
 ∃ code d',e = .returned (.int .i64 code) /\ (∃ Z',Cq Z' w' c p room nb K d' /\ Gr Z Z' w) /\ But Z w w' /\ ((layC d nb fr bl ≠ 0 /\ code = layC d nb fr bl /\ d' = d) \/ (layC d nb fr bl = 0 /\ ∃ f b:Nat,fr = f /\ bl = b /\ 16 <= b /\ f + b <= nb /\ d.runs (formatCmds f b) = (code,d')))
theorem Format_any {Z:Nat -> Prop} {w:World} {c p room nb K:Nat} {d:Pd} (h:Cq Z w c p room nb K d) (fr bl:Int) (hl:d.puts.length + nb + nb + 8 <= 1073741823) :
  Calls Tryz.prog 73 #[.pointer (some ⟨c,0,none⟩),.int .i64 fr,.int .i64 bl] w (FormatP Z w c p room nb K d fr bl):=by
 have H:=hid (jlay_any h fr bl)
 have HC:=hid h
 have hnb:=h.fits.2.2
 clear h
 go_enter Tryz.func73,Tryz.ntmps73
 go_wp2_with fail
 refine Calls.mono H.out ?_
 rintro e w2 ⟨jv,rfl,b2,hq⟩
 rcases hq with ⟨hne,rfl⟩ | ⟨hz,j,f,b,rfl,rfl,rfl,q1,q2,q3,Z2,hJ,hG⟩
 ·have FIN:Hid (FormatP Z w c p room nb K d fr bl (.returned (.int .i64 (layC d nb fr bl))) w2):=⟨_,d,rfl,⟨Z,HC.out.below b2,Gr.refl _ _⟩,But.of_below b2,.inl ⟨hne,rfl,rfl⟩⟩
  clear b2 H HC hnb hl
  generalize layC d nb fr bl = code at *
  go_wp2
  go_ret
  exact FIN.out
 ·obtain ⟨mv,hJb,hZj⟩:=hJ.cells
  have hjl:=hJb.lt
  have j0:=hJb.cell 0
  simp at j0
  obtain ⟨w3,hw1⟩:∃ w3,w3 = (w2.alloc (.cells #[.func (.func 111) #[.pointer (some ⟨j,0,none⟩)] #[],.func (.func 95) #[.pointer (some ⟨c,0,none⟩)] #[],.func (.func 112) #[.pointer (some ⟨j,0,none⟩)] #[],.func (.func 95) #[.pointer (some ⟨c,0,none⟩)] #[],.func (.func 113) #[.pointer (some ⟨j,0,none⟩)] #[],.func (.func 95) #[.pointer (some ⟨c,0,none⟩)] #[]] 84)).drew:=⟨_,rfl⟩
  obtain ⟨b1,z1,F1⟩:=steps_ready w2 _ [((111:Nat),Value.pointer (some ⟨j,0,none⟩)),(95,.pointer (some ⟨c,0,none⟩)),(112,.pointer (some ⟨j,0,none⟩)),(95,.pointer (some ⟨c,0,none⟩)),(113,.pointer (some ⟨j,0,none⟩)),(95,.pointer (some ⟨c,0,none⟩))] (fun i f hf=> by
    rcases i with _ | _ | _ | _ | _ | _ | i
    ·cases hf; rfl
    ·cases hf; rfl
    ·cases hf; rfl
    ·cases hf; rfl
    ·cases hf; rfl
    ·cases hf; rfl
    ·simp at hf) hw1
  have hn:Jn nb f b noS:=⟨q1,q2,hnb,Nat.zero_le _,Nat.zero_le _,by simp [noS]; omega⟩
  have HT:=format_turn (w:=w2) (k:=w2.heap.size) (hJ.cut.below b1) (But.of_below b1) (Gr.refl _ _) (by omega) (fun q=> by have:=q.2; omega) hn (by omega)
  have HI:=hid (inTurn_any (k:=w2.heap.size) _ (by simp) (fun i g hg=> by
   have:=List.mem_of_getElem? hg
   simp at this
   rcases this with rfl | rfl | rfl | rfl | rfl | rfl <;> simp) w3 F1 HT)
  have HF:Hid (∀ e w4,Did (fun k=> Z2 k /\ k < w2.heap.size) w2 j c p room nb K f b d (formatCmds f b) (beginS noS) e w4 -> FormatP Z w c p room nb K d (f:Int) (b:Int) e w4):=fun e w4 q=> by
   obtain ⟨r1,⟨Z',s',r2,r3,r4⟩,r5⟩:=q
   have hs:=b2.size
   exact ⟨_,_,r1,⟨Z',r2.toCq,fun k hk r=> hG k hk (r4 k (by omega) r).1⟩,(But.of_below b2).comp r5 (fun k hk r=> hG k hk r.1),.inr ⟨hz,f,b,rfl,rfl,q1,q2,rfl⟩⟩
  clear HT hJ hJb hG b2 H HC hnb hl F1 z1 b1 hn q1 q2 q3 hZj
  rw [hz]
  have HW1:=hid hw1
  clear hw1 hz
  generalize formatCmds f b = cs at HI HF
  generalize beginS noS = sE at HI HF
  go_wp2_with fail
  refine wp_region_noPanic ?_
  refine wp_region_held_drew (S:=fun w'=> w'.cell? ⟨j,0,none⟩ = some (.pointer (some ⟨c,0,none⟩))) (by kernel_rfl) j0 (fun hSS=> ?_)
  refine wpAnyH_take (i:=0) (v:=?v0) rfl (by kernel_rfl) (by kernel_rfl) (by kernel_rfl) (fun _ _ _ h=> h) (Or.inl ⟨by rfl,?hy0⟩) hSS ?_
  case hy0=> (intro w9 hSw; (try dsimp only at hSw); (try go_split_ands); go_simp; try with_reducible rfl)
  simp only [Act.put,List.setIfInBounds_toArray]
  refine wpAnyH_take (i:=1) (v:=?v1) rfl (by kernel_rfl) (by kernel_rfl) (by kernel_rfl) (fun _ _ _ h=> h) (Or.inl ⟨by rfl,?hy1⟩) hSS ?_
  case hy1=> (intro w9 hSw; (try dsimp only at hSw); (try go_split_ands); go_simp; try with_reducible rfl)
  simp only [Act.put]
  refine wpAnyH_take (i:=2) (v:=?v2) rfl (by kernel_rfl) (by kernel_rfl) (by kernel_rfl) (fun _ _ _ h=> h) (Or.inl ⟨by rfl,?hy2⟩) hSS ?_
  case hy2=> (intro w9 hSw; (try dsimp only at hSw); (try go_split_ands); go_simp; try with_reducible rfl)
  simp only [Act.put]
  refine wpAnyH_take (i:=3) (v:=?v3) rfl (by kernel_rfl) (by kernel_rfl) (by kernel_rfl) (fun _ _ _ h=> h) (Or.inl ⟨by rfl,?hy3⟩) hSS ?_
  case hy3=> (intro w9 hSw; (try dsimp only at hSw); (try go_split_ands); go_simp; try with_reducible rfl)
  simp only [Act.put]
  refine wpAnyH_take (i:=4) (v:=?v4) rfl (by kernel_rfl) (by kernel_rfl) (by kernel_rfl) (fun _ _ _ h=> h) (Or.inl ⟨by rfl,?hy4⟩) hSS ?_
  case hy4=> (intro w9 hSw; (try dsimp only at hSw); (try go_split_ands); go_simp; try with_reducible rfl)
  simp only [Act.put]
  refine wpAnyH_take (i:=5) (v:=?v5) rfl (by kernel_rfl) (by kernel_rfl) (by kernel_rfl) (fun _ _ _ h=> h) (Or.inl ⟨by rfl,?hy5⟩) hSS ?_
  case hy5=> (intro w9 hSw; (try dsimp only at hSw); (try go_split_ands); go_simp; try with_reducible rfl)
  simp only [Act.put]
  refine wpAnyH_take (i:=6) (v:=?v6) rfl (by kernel_rfl) (by kernel_rfl) (by kernel_rfl) (fun _ _ _ h=> h) (Or.inl ⟨by rfl,?hy6⟩) hSS ?_
  case hy6=> (intro w9 hSw; (try dsimp only at hSw); (try go_split_ands); go_simp; try with_reducible rfl)
  simp only [Act.put]
  refine wpAnyH_take (i:=7) (v:=?v7) rfl (by kernel_rfl) (by kernel_rfl) (by kernel_rfl) (fun _ _ _ h=> h) (Or.inl ⟨by rfl,?hy7⟩) hSS ?_
  case hy7=> (intro w9 hSw; (try dsimp only at hSw); (try go_split_ands); go_simp; try with_reducible rfl)
  simp only [Act.put]
  refine wpAnyH_take (i:=8) (v:=?v8) rfl (by kernel_rfl) (by kernel_rfl) (by kernel_rfl) (fun _ _ _ h=> h) (Or.inl ⟨by rfl,?hy8⟩) hSS ?_
  case hy8=> (intro w9 hSw; (try dsimp only at hSw); (try go_split_ands); go_simp; try with_reducible rfl)
  simp only [Act.put]
  refine wpAnyH_take (i:=9) (v:=?v9) rfl (by kernel_rfl) (by kernel_rfl) (by kernel_rfl) (fun _ _ _ h=> h) (Or.inl ⟨by rfl,?hy9⟩) hSS ?_
  case hy9=> (intro w9 hSw; (try dsimp only at hSw); (try go_split_ands); go_simp; try with_reducible rfl)
  simp only [Act.put]
  refine wpAnyH_take (i:=10) (v:=?v10) rfl (by kernel_rfl) (by kernel_rfl) (by kernel_rfl) (fun _ _ _ h=> h) (Or.inl ⟨by rfl,?hy10⟩) hSS ?_
  case hy10=> (intro w9 hSw; (try dsimp only at hSw); (try go_split_ands); go_simp; try with_reducible rfl)
  simp only [Act.put]
  refine wpAnyH_take (i:=11) (v:=?v11) rfl (by kernel_rfl) (by kernel_rfl) (by kernel_rfl) (fun _ _ _ h=> h) (Or.inl ⟨by rfl,?hy11⟩) hSS ?_
  case hy11=> (intro w9 hSw; (try dsimp only at hSw); (try go_split_ands); go_simp; try with_reducible rfl)
  simp only [Act.put]
  refine wpAnyH_take (i:=12) (v:=?v12) rfl (by kernel_rfl) (by kernel_rfl) (by kernel_rfl) (fun _ _ _ h=> h) (Or.inl ⟨by rfl,?hy12⟩) hSS ?_
  case hy12=> (intro w9 hSw; (try dsimp only at hSw); (try go_split_ands); go_simp; try with_reducible rfl)
  simp only [Act.put]
  refine wpAnyH_take (i:=13) (v:=?v13) rfl (by kernel_rfl) (by kernel_rfl) (by kernel_rfl) (fun _ _ _ h=> h) (Or.inl ⟨by rfl,?hy13⟩) hSS ?_
  case hy13=> (intro w9 hSw; (try dsimp only at hSw); (try go_split_ands); go_simp; try with_reducible rfl)
  simp only [Act.put]
  refine wpAnyH_take (i:=14) (v:=?v14) rfl (by kernel_rfl) (by kernel_rfl) (by kernel_rfl) (fun _ _ _ h=> h) (Or.inl ⟨by rfl,?hy14⟩) hSS ?_
  case hy14=> (intro w9 hSw; (try dsimp only at hSw); (try go_split_ands); go_simp; try with_reducible rfl)
  simp only [Act.put]
  refine wpAnyH_take (i:=15) (v:=?v15) rfl (by kernel_rfl) (by kernel_rfl) (by kernel_rfl) (fun _ _ _ h=> h) (Or.inl ⟨by rfl,?hy15⟩) hSS ?_
  case hy15=> (intro w9 hSw; (try dsimp only at hSw); (try go_split_ands); go_simp; try with_reducible rfl)
  simp only [Act.put]
  refine wpAnyH_take (i:=16) (v:=?v16) rfl (by kernel_rfl) (by kernel_rfl) (by kernel_rfl) (fun _ _ _ h=> h) (Or.inl ⟨by rfl,?hy16⟩) hSS ?_
  case hy16=> (intro w9 hSw; (try dsimp only at hSw); (try go_split_ands); go_simp; try with_reducible rfl)
  simp only [Act.put]
  refine wpAnyH_take (i:=17) (v:=?v17) rfl (by kernel_rfl) (by kernel_rfl) (by kernel_rfl) (fun _ _ _ h=> h) (Or.inl ⟨by rfl,?hy17⟩) hSS ?_
  case hy17=> (intro w9 hSw; (try dsimp only at hSw); (try go_split_ands); go_simp; try with_reducible rfl)
  simp only [Act.put]
  refine wpAnyH_take (i:=18) (v:=?v18) rfl (by kernel_rfl) (by kernel_rfl) (by kernel_rfl) (fun _ _ _ h=> h) (Or.inl ⟨by rfl,?hy18⟩) hSS ?_
  case hy18=> (intro w9 hSw; (try dsimp only at hSw); (try go_split_ands); go_simp; try with_reducible rfl)
  simp only [Act.put]
  refine wpAnyH_take (i:=19) (v:=?v19) rfl (by kernel_rfl) (by kernel_rfl) (by kernel_rfl) (fun _ _ _ h=> h) (Or.inl ⟨by rfl,?hy19⟩) hSS ?_
  case hy19=> (intro w9 hSw; (try dsimp only at hSw); (try go_split_ands); go_simp; try with_reducible rfl)
  simp only [Act.put]
  refine wpAnyH_take (i:=20) (v:=?v20) rfl (by kernel_rfl) (by kernel_rfl) (by kernel_rfl) (fun _ _ _ h=> h) (Or.inl ⟨by rfl,?hy20⟩) hSS ?_
  case hy20=> (intro w9 hSw; (try dsimp only at hSw); (try go_split_ands); go_simp; try with_reducible rfl)
  simp only [Act.put]
  refine wpAnyH_ready (rs:=[21]) (by kernel_rfl) (by simp) (AllReadyH.cons (i:=21) rfl (fun K9 hK9=> ?_) AllReadyH.nil)
  go_simp
  refine hK9.out _ _ ((World.cell?_alloc_past _ _ _ hjl).trans j0) (fun hSS2=> ?_)
  clear hK9 K9 hSS
  refine wpAnyH_ready (rs:=[22]) (by kernel_rfl) (by simp) (AllReadyH.cons (i:=22) rfl (fun K9 hK9=> ?_) AllReadyH.nil)
  go_simp
  go_at_call 110
  rw [<- HW1.out]
  refine Calls.mono HI.out ?_
  intro e w4 q
  have FIN:=hid q
  have q0:=q.c0
  obtain ⟨he,_⟩:=q
  subst he
  dsimp only
  refine hK9.out _ _ q0 (fun hSS3=> ?_)
  clear hK9 K9 hSS2
  refine wpAnyH_take (i:=23) (v:=?v23) rfl (by kernel_rfl) (by kernel_rfl) (by kernel_rfl) (fun _ _ _ h=> h) (Or.inl ⟨by rfl,?hy23⟩) hSS3 ?_
  case hy23=> (intro w9 hSw; (try dsimp only at hSw); go_simp; try with_reducible rfl)
  dsimp [Act.put]
  refine wpAnyH_done (by kernel_rfl) (NoPanic.normal ?_) _
  have FIN2:=hid (HF.out _ _ FIN.out)
  clear j0 HI HW1 q0 hSS3 HF FIN
  go_wp2
  go_ret
  exact FIN2.out
open Go.RowKit
def uerr (E:Int):Value:=.tuple #[.int .i64 0,.int .i64 0,.slice none 0 0,.int .i64 E]
theorem Unstamp_head (b off cap:Nat) (zs:List Int) (w:World) (hz:zs.length = 512) (hzb:Pl.isB zs) (hcap:512 <= cap)
  (hc:∀ t,t < 512 -> w.cell? ⟨b,off + t,none⟩ = some (.int .u8 (zs.getD t 0)))
  (h:zs.getD 0 0 = 0 \/ 497 < Pl.num ((zs.drop 1).take 2) \/ 1099511627776 < Pl.num ((zs.drop 3).take 8)) :
  Calls Tryz.prog 155 #[.slice (some ⟨b,off,none⟩) 512 cap] w fun e w'=> e = .returned (uerr 16) /\ w' = w:=by
 have g1:=getNumber_any b (off + 1) 2 (cap - 1) ((zs.drop 1).take 2) w (by decide) (by simp; omega) (Pl.isB_take (Pl.isB_drop hzb _) _) (part_cells hc 1 2 (by decide))
 have g3:=getNumber_any b (off + 3) 8 (cap - 3) ((zs.drop 3).take 8) w (by decide) (by simp; omega) (Pl.isB_take (Pl.isB_drop hzb _) _) (part_cells hc 3 8 (by decide))
 have c0:w.cell? ⟨b,off,none⟩ = some (.int .u8 (zs.getD 0 0)):=hc 0 (by decide)
 have k1:=Pl.isB_getD hzb 0
 rw [<- List.getD_eq_getElem?_getD] at k1
 have l0:=Pl.num_nonneg (Pl.isB_take (Pl.isB_drop hzb 1) 2)
 have l1:=Pl.num_lt (Pl.isB_take (Pl.isB_drop hzb 1) 2)
 rw [show ((zs.drop 1).take 2).length = 2 from by simp; omega] at l1
 have s0:=Pl.num_nonneg (Pl.isB_take (Pl.isB_drop hzb 3) 8)
 have l2:Pl.num ((zs.drop 1).take 2) < 65536:=by omega
 generalize Pl.num ((zs.drop 1).take 2) = L at *
 generalize Pl.num ((zs.drop 3).take 8) = S at *
 generalize zs.getD 0 0 = K at *
 obtain ⟨k2,k3⟩:=k1
 have G1:=hid g1
 have G3:=hid g3
 clear g1 g3 hc hzb hz l1
 have fin:∀ (Q:Prop),Q -> Q:=fun _ h=> h
 rcases (show K = 0 \/ (1 <= K /\ 497 < L) \/ (1 <= K /\ L <= 497 /\ 1099511627776 < S) from by omega) with h1 | ⟨h1,h2⟩ | ⟨h1,h2,h3⟩
 ·subst h1
  clear h
  go_enter Tryz.func155,Tryz.ntmps155
  go_wp2_with fail
  refine Calls.mono G1.out ?_
  rintro e w1 ⟨rfl,rfl⟩
  go_wp2_with fail
  refine Calls.mono G3.out ?_
  rintro e w1 ⟨rfl,rfl⟩
  go_wp2_with fail
  exact bodyPost_ret (v:=uerr 16) (by simp [uerr,results,Tryz.results155,go_sem]) rfl ⟨rfl,rfl⟩
 ·have hK3:(K == 0) = false:=by simp; omega
  clear h
  go_enter Tryz.func155,Tryz.ntmps155
  go_wp2_with fail
  refine Calls.mono G1.out ?_
  rintro e w1 ⟨rfl,rfl⟩
  go_wp2_with fail
  refine Calls.mono G3.out ?_
  rintro e w1 ⟨rfl,rfl⟩
  go_wp2_with fail
  exact bodyPost_ret (v:=uerr 16) (by simp [uerr,results,Tryz.results155,go_sem]) rfl ⟨rfl,rfl⟩
 ·have hK3:(K == 0) = false:=by simp; omega
  clear h
  go_enter Tryz.func155,Tryz.ntmps155
  go_wp2_with fail
  refine Calls.mono G1.out ?_
  rintro e w1 ⟨rfl,rfl⟩
  go_wp2_with fail
  refine Calls.mono G3.out ?_
  rintro e w1 ⟨rfl,rfl⟩
  go_wp2_with fail
  exact bodyPost_ret (v:=uerr 16) (by simp [uerr,results,Tryz.results155,go_sem]) rfl ⟨rfl,rfl⟩
theorem Unstamp_rest (b off cap:Nat) (zs:List Int) (K S:Int) (L:Nat) (w:World) (hz:zs.length = 512) (hzb:Pl.isB zs) (hb:b < w.heap.size) (hcap:512 <= cap)
  (hc:∀ t,t < 512 -> w.cell? ⟨b,off + t,none⟩ = some (.int .u8 (zs.getD t 0)))
  (hK:zs.getD 0 0 = K) (hK1:1 <= K) (hL:Pl.num ((zs.drop 1).take 2) = (L:Int)) (hL1:L <= 497) (hS:Pl.num ((zs.drop 3).take 8) = S) (hS1:S <= 1099511627776)
  (hbad:zeroB (zs.drop (15 + L)) = false \/ Pl.num ((zs.drop 11).take 4) ≠ crc (splice zs 11 [0,0,0,0])) :
  Calls Tryz.prog 155 #[.slice (some ⟨b,off,none⟩) 512 cap] w fun e w'=> e = .returned (uerr (if zeroB (zs.drop (15 + L)) = false then 16 else 17)) /\ Below w.heap.size w w':=by
 have hS0:0 <= S:=by rw [<- hS]; exact Pl.num_nonneg (Pl.isB_take (Pl.isB_drop hzb _) _)
 have hK2:K < 256:=by rw [<- hK,List.getD_eq_getElem?_getD]; exact (Pl.isB_getD hzb 0).2
 have c0:w.cell? ⟨b,off,none⟩ = some (.int .u8 K):=by rw [<- hK]; exact hc 0 (by decide)
 have g1:=getNumber_any b (off + 1) 2 (cap - 1) ((zs.drop 1).take 2) w (by decide) (by simp; omega) (Pl.isB_take (Pl.isB_drop hzb _) _) (part_cells hc 1 2 (by decide))
 have g3:=getNumber_any b (off + 3) 8 (cap - 3) ((zs.drop 3).take 8) w (by decide) (by simp; omega) (Pl.isB_take (Pl.isB_drop hzb _) _) (part_cells hc 3 8 (by decide))
 have g11:=getNumber_any b (off + 11) 4 (cap - 11) ((zs.drop 11).take 4) w (by decide) (by simp; omega) (Pl.isB_take (Pl.isB_drop hzb _) _) (part_cells hc 11 4 (by decide))
 rw [hL] at g1
 rw [hS] at g3
 have hst:=stampSum_any b off cap zs w hz hzb hb hcap hc
 obtain ⟨q1,q2⟩:=crc_bd (isB_splice hzb isB_four 11)
 have m0:=Pl.num_nonneg (Pl.isB_take (Pl.isB_drop hzb 11) 4)
 generalize crc (splice zs 11 [0,0,0,0]) = C at *
 generalize Pl.num ((zs.drop 11).take 4) = M at *
 have G1:=hid g1
 have G3:=hid g3
 have G11:=hid g11
 have HST:=hid hst
 have HA1:cap = 15 + L -> Calls Tryz.prog 181 #[.slice (some ⟨b,off,none⟩) (512 - (15 + L)) 0] w fun e w'=> e = .returned (.bool (zeroB (zs.drop (15 + L)))) /\ w' = w:=fun h=> by
  have hL2:L = 497:=by omega
  subst hL2
  exact allZero_any w.heap.size _ 0 0 _ w (by decide) ⟨by simp; omega,Pl.isB_drop hzb _,.inl rfl⟩
 have HA2:Calls Tryz.prog 181 #[.slice (some ⟨b,off + (15 + L),none⟩) (512 - (15 + L)) (cap - (15 + L))] w fun e w'=> e = .returned (.bool (zeroB (zs.drop (15 + L)))) /\ w' = w :=
  allZero_any w.heap.size _ _ _ _ w (by omega) ⟨by simp; omega,Pl.isB_drop hzb _,.inr ⟨b,off + (15 + L),rfl,hb,fun t ht=> by rw [show off + (15 + L) + t = off + (15 + L + t) by omega,hc _ (by omega)]; simp⟩⟩
 have A1:=hid HA1
 have A2:=hid HA2
 generalize zeroB (zs.drop (15 + L)) = Zb at *
 clear HA1 HA2
 have hK3:(K == 0) = false:=by simp; omega
 have e64:IntKind.u64.wrap C = C:=by rw [IntKind.wrap_u64]; omega
 clear g1 g3 g11 hst hc hL hS hK
 cases Zb with
 | false=>
  rw [if_pos rfl]
  go_enter Tryz.func155,Tryz.ntmps155
  go_wp2_with fail
  refine Calls.mono G1.out ?_
  rintro e w1 ⟨rfl,rfl⟩
  go_wp2_with fail
  refine Calls.mono G3.out ?_
  rintro e w1 ⟨rfl,rfl⟩
  go_wp2_with fail
  ·have hcl:cap = 15 + L:=by assumption
   subst hcl
   refine Calls.mono (A1.out rfl) ?_
   rintro e w1 ⟨rfl,rfl⟩
   go_wp2_with fail
   exact bodyPost_ret (v:=uerr 16) (by simp [uerr,results,Tryz.results155,go_sem]) rfl ⟨rfl,Below.refl _ _⟩
  ·refine Calls.mono A2.out ?_
   rintro e w1 ⟨rfl,rfl⟩
   go_wp2_with fail
   exact bodyPost_ret (v:=uerr 16) (by simp [uerr,results,Tryz.results155,go_sem]) rfl ⟨rfl,Below.refl _ _⟩
 | true=>
  rw [if_neg (by decide)]
  have hne:(M != C) = true:=by rcases hbad with h | h; cases h; simpa using h
  clear hbad
  go_enter Tryz.func155,Tryz.ntmps155
  go_wp2_with fail
  refine Calls.mono G1.out ?_
  rintro e w1 ⟨rfl,rfl⟩
  go_wp2_with fail
  refine Calls.mono G3.out ?_
  rintro e w1 ⟨rfl,rfl⟩
  go_wp2_with fail
  ·have hcl:cap = 15 + L:=by assumption
   subst hcl
   refine Calls.mono (A1.out rfl) ?_
   rintro e w1 ⟨rfl,rfl⟩
   go_wp2_with fail
   refine Calls.mono G11.out ?_
   rintro e w1 ⟨rfl,rfl⟩
   go_wp2_with fail
   refine Calls.mono HST.out ?_
   rintro e w2 ⟨rfl,hb2⟩
   go_wp2_with fail
   exact bodyPost_ret (v:=uerr 17) (by simp [uerr,results,Tryz.results155,go_sem]) rfl ⟨rfl,hb2⟩
  ·refine Calls.mono A2.out ?_
   rintro e w1 ⟨rfl,rfl⟩
   go_wp2_with fail
   refine Calls.mono G11.out ?_
   rintro e w1 ⟨rfl,rfl⟩
   go_wp2_with fail
   refine Calls.mono HST.out ?_
   rintro e w2 ⟨rfl,hb2⟩
   go_wp2_with fail
   exact bodyPost_ret (v:=uerr 17) (by simp [uerr,results,Tryz.results155,go_sem]) rfl ⟨rfl,hb2⟩
open Go.RowKit
def unZ (zs:List Int):Option (Int × Int × List Int) :=
 if zs.getD 0 0 = 0 \/ 497 < Pl.num ((zs.drop 1).take 2) \/ 1099511627776 < Pl.num ((zs.drop 3).take 8) then none
 else if zeroB (zs.drop (15 + (Pl.num ((zs.drop 1).take 2)).toNat)) = false \/ Pl.num ((zs.drop 11).take 4) ≠ crc (splice zs 11 [0,0,0,0]) then none
 else some (zs.getD 0 0,Pl.num ((zs.drop 3).take 8),(zs.drop 15).take (Pl.num ((zs.drop 1).take 2)).toNat)
def UnP (w:World) (o:Option (Int × Int × List Int)) (e:Ending) (w':World):Prop :=
 match o with
 | none=> ∃ code:Int,e = .returned (uerr code) /\ code ≠ 0
 | some (k,l,body)=> ∃ g,e = .returned (.tuple #[.int .i64 k,.int .i64 l,.slice (some ⟨g,0,none⟩) body.length body.length,.int .i64 0]) /\ w.heap.size <= g /\ Blk .u8 5 w' g body /\ Pl.isB body /\ body.length <= 497 /\ 1 <= k /\ 0 <= l /\ l <= 1099511627776
theorem Unstamp_any {w:World} {g cap:Nat} {zs:List Int} (ho:Own w g 512 cap zs) (hb:Pl.isB zs) :
  Calls Tryz.prog 155 #[.slice (some ⟨g,0,none⟩) 512 cap] w fun e w'=> UnP w (unZ zs) e w' /\ Below w.heap.size w w':=by
 have hz:=ho.len
 have hcap:=ho.cap
 have hc:∀ t,t < 512 -> w.cell? ⟨g,0 + t,none⟩ = some (.int .u8 (zs.getD t 0)):=fun t ht=> by rw [Nat.zero_add]; exact ho.cell t ht
 unfold unZ
 by_cases h1:zs.getD 0 0 = 0 \/ 497 < Pl.num ((zs.drop 1).take 2) \/ 1099511627776 < Pl.num ((zs.drop 3).take 8)
 ·rw [if_pos h1]
  refine Calls.mono (Unstamp_head g 0 cap zs w hz hb hcap hc h1) ?_
  rintro e w' ⟨rfl,rfl⟩
  exact ⟨⟨16,rfl,by decide⟩,Below.refl _ _⟩
 ·rw [if_neg h1]
  have n2:0 <= Pl.num ((zs.drop 1).take 2):=Pl.num_nonneg (Pl.isB_take (Pl.isB_drop hb _) _)
  have n8:0 <= Pl.num ((zs.drop 3).take 8):=Pl.num_nonneg (Pl.isB_take (Pl.isB_drop hb _) _)
  have k0:=Pl.isB_getD hb 0
  have k0':zs.getD 0 0 = zs[0]?.getD 0:=by simp
  by_cases h2:zeroB (zs.drop (15 + (Pl.num ((zs.drop 1).take 2)).toNat)) = false \/ Pl.num ((zs.drop 11).take 4) ≠ crc (splice zs 11 [0,0,0,0])
  ·rw [if_pos h2]
   refine Calls.mono (Unstamp_rest g 0 cap zs (zs.getD 0 0) (Pl.num ((zs.drop 3).take 8)) (Pl.num ((zs.drop 1).take 2)).toNat w hz hb ho.lt hcap hc rfl (by omega) (by omega) (by omega) rfl (by omega) h2) ?_
   rintro e w' ⟨rfl,b⟩
   refine ⟨⟨_,rfl,?_⟩,b⟩
   split <;> decide
  ·rw [if_neg h2]
   have h3:zeroB (zs.drop (15 + (Pl.num ((zs.drop 1).take 2)).toNat)) = true:=by
    cases hq:zeroB (zs.drop (15 + (Pl.num ((zs.drop 1).take 2)).toNat))
    ·exact absurd (.inl hq) h2
    ·rfl
   have h4:Pl.num ((zs.drop 11).take 4) = crc (splice zs 11 [0,0,0,0]):=Classical.byContradiction fun q=> h2 (.inr q)
   have hbl:((zs.drop 15).take (Pl.num ((zs.drop 1).take 2)).toNat).length = (Pl.num ((zs.drop 1).take 2)).toNat:=by rw [List.length_take,List.length_drop]; omega
   refine Calls.mono (Unstamp_ok g 0 cap zs (zs.getD 0 0) (Pl.num ((zs.drop 3).take 8)) (Pl.num ((zs.drop 1).take 2)).toNat w hz hb ho.lt hcap hc rfl (by omega) (by omega) (by omega) rfl (by omega) h3 h4) ?_
   rintro e w' ⟨g',rfl,q1,q2,b⟩
   exact ⟨⟨g',by rw [hbl],q1,q2,Pl.isB_take (Pl.isB_drop hb _) _,by rw [hbl]; omega,by omega,n8,by omega⟩,b⟩
def hdZ (body:List Int):Option (Int × Int × Int) :=
 if body.length = 14 /\ Pl.num ((body.drop 6).take 8) <= 1099511627776 then some (Pl.num (body.take 3),Pl.num ((body.drop 3).take 3),Pl.num ((body.drop 6).take 8)) else none
def hdV (o:Option (Int × Int × Int)):Value :=
 match o with
 | none=> .nilIface
 | some (f,b,q)=> .iface 215 (.agg #[.int .i64 f,.int .i64 b,.int .i64 q])
theorem okW_three:okW [3,3,8]:=by
 intro x hx
 simp at hx
 rcases hx with rfl | rfl <;> rfl
theorem headOf_any {w:World} {g n:Nat} {body:List Int} (hB:Blk .u8 5 w g body) (hb:Pl.isB body) (hn:body.length = n) :
  Calls Tryz.prog 183 #[.slice (some ⟨g,0,none⟩) n n] w fun e w'=> e = .returned (hdV (hdZ body)) /\ Below w.heap.size w w':=by
 obtain ⟨w1,hw1⟩:∃ w1,w1 = w.alloc (.cells #[.int .i64 3,.int .i64 3,.int .i64 8] 3):=⟨_,rfl⟩
 have b1:Below w.heap.size w w1:=by rw [hw1]; exact (Below.refl _ _).alloc (Nat.le_refl _) _
 have z1:w1.heap.size = w.heap.size + 1:=by rw [hw1]; simp
 have hR:Rd w1.heap.size w1 (some ⟨g,0,none⟩) n body:=by
  have:=(Rd.of_blk hB hb hB.lt).below b1 |>.mono (B':=w1.heap.size) (by omega)
  rwa [hn] at this
 have hR2:RdI w1.heap.size w1 (some ⟨w.heap.size,0,none⟩) 3 [3,3,8]:=⟨rfl,.inr ⟨w.heap.size,0,rfl,by omega,fun t ht=> by
  rw [hw1]
  rcases t with _ | _ | _ | t
  ·exact cell_new rfl 0 _ rfl
  ·exact cell_new rfl 1 _ rfl
  ·exact cell_new rfl 2 _ rfl
  ·omega⟩⟩
 have e0:valK body [3,3,8] 0 = Pl.num (body.take 3):=by simp [valK,sumW]
 have e1:valK body [3,3,8] 1 = Pl.num ((body.drop 3).take 3):=by simp [valK,sumW]
 have e2:valK body [3,3,8] 2 = Pl.num ((body.drop 6).take 8):=by simp [valK,sumW]
 by_cases hl:n = 14
 ·subst hl
  have hlt:∀ i,Pl.num ((body.drop i).take 3) < 16777216:=fun i=> by
   have h:=Pl.num_lt (Pl.isB_take (Pl.isB_drop hb i) 3)
   have h2:((body.drop i).take 3).length <= 3:=by simp; omega
   have h3:(256:Int) ^ ((body.drop i).take 3).length <= 16777216:=by
    generalize ((body.drop i).take 3).length = m at h2
    match m,h2 with
    | 0,_=> decide
    | 1,_=> decide
    | 2,_=> decide
    | 3,_=> decide
   omega
  have l0:=hlt 0
  have l1:=hlt 3
  rw [List.drop_zero] at l0
  by_cases hv:Pl.num ((body.drop 6).take 8) <= 9223372036854775807
  ·have HU:=hid (Unpack_ok (some ⟨g,0,none⟩) (some ⟨w.heap.size,0,none⟩) 14 14 3 3 body [3,3,8] w1 (by omega) (Nat.le_refl _) hR hR2 okW_three rfl (fun k hk=> by
    rcases k with _ | _ | _ | k
    ·rw [e0]; omega
    ·rw [e1]; omega
    ·rw [e2]; exact hv
    ·omega))
   have hvs:vals body [3,3,8] 3 = [Pl.num (body.take 3),Pl.num ((body.drop 3).take 3),Pl.num ((body.drop 6).take 8)]:=by simp [vals,e0,e1,e2]
   rw [hvs] at HU
   have B1:=hid b1
   obtain ⟨v0,hv0⟩:∃ v0,v0 = Pl.num (body.take 3):=⟨_,rfl⟩
   obtain ⟨v1,hv1⟩:∃ v1,v1 = Pl.num ((body.drop 3).take 3):=⟨_,rfl⟩
   obtain ⟨v2,hv2⟩:∃ v2,v2 = Pl.num ((body.drop 6).take 8):=⟨_,rfl⟩
   have hh:hdZ body = if v2 <= 1099511627776 then some (v0,v1,v2) else none:=by
    unfold hdZ
    rw [<- hv0,<- hv1,<- hv2,hn]
    simp
   rw [hh]
   rw [<- hv0,<- hv1,<- hv2] at HU
   clear hv0 hv1 hv2 hh hvs e0 e1 e2 hlt l0 l1 hv hR hR2 b1 hb
   have HZ:=hid z1
   clear z1
   by_cases hq:v2 <= 1099511627776
   ·rw [if_pos hq]
    go_enter Tryz.func183,Tryz.ntmps183
    go_wp2_with fail
    rw [<- hw1]
    refine Calls.mono HU.out ?_
    rintro e w2 ⟨g2,rfl,hg2,hb2,b2⟩
    have B2:=hid (B1.out.trans (b2.mono B1.out.size))
    have c0:=hb2.cell 0 (by simp)
    have c1:=hb2.cell 1 (by simp)
    have c2:=hb2.cell 2 (by simp)
    simp at c0 c1 c2
    have hq':¬ 1099511627776 < v2:=by omega
    clear b2 hb2 hg2 HU hw1 B1
    go_wp2_with fail
    go_region_held3 (fun w'=> w'.cell? ⟨g2,0,none⟩ = some (.int .i64 v0) /\ w'.cell? ⟨g2,1,none⟩ = some (.int .i64 v1) /\ w'.cell? ⟨g2,2,none⟩ = some (.int .i64 v2)) (first | (exact ⟨by assumption,by assumption,by assumption⟩) | go_keep) (fail)
    go_wp2
    go_ret
    exact ⟨rfl,by simpa using B2.out.drew⟩
   ·rw [if_neg hq]
    go_enter Tryz.func183,Tryz.ntmps183
    go_wp2_with fail
    rw [<- hw1]
    refine Calls.mono HU.out ?_
    rintro e w2 ⟨g2,rfl,hg2,hb2,b2⟩
    have B2:=hid (B1.out.trans (b2.mono B1.out.size))
    have c2:=hb2.cell 2 (by simp)
    simp at c2
    have hq':1099511627776 < v2:=by omega
    clear b2 hb2 hg2 HU hw1 B1 hq
    go_wp2
    go_ret
    exact ⟨rfl,B2.out⟩
  ·have HU:=hid (Unpack_value (some ⟨g,0,none⟩) (some ⟨w.heap.size,0,none⟩) 14 14 3 3 body [3,3,8] w1 (by omega) (Nat.le_refl _) hR hR2 okW_three rfl ⟨2,by omega,by rw [e2]; omega⟩)
   have B1:=hid b1
   have hh:hdZ body = none:=by
    unfold hdZ
    rw [if_neg (fun q=> hv (by omega))]
   rw [hh]
   clear hh e0 e1 e2 hlt l0 l1 hv hR hR2 b1 hb z1
   go_enter Tryz.func183,Tryz.ntmps183
   go_wp2_with fail
   rw [<- hw1]
   refine Calls.mono HU.out ?_
   rintro e w2 ⟨rfl,b2⟩
   have B2:=hid (B1.out.trans (b2.mono B1.out.size))
   clear b2 HU hw1 B1
   unfold perr
   go_wp2
   go_ret
   exact ⟨rfl,B2.out⟩
 ·have HU:=hid (Unpack_size (some ⟨g,0,none⟩) (some ⟨w.heap.size,0,none⟩) n n 3 3 [3,3,8] w1 (by omega) hR2 okW_three (by intro q; exact hl q))
  have B1:=hid b1
  have hh:hdZ body = none:=by
   unfold hdZ
   rw [if_neg (fun q=> hl (by omega))]
  rw [hh]
  clear hh e0 e1 e2 hR hR2 b1 hb z1 hl hn hB
  go_enter Tryz.func183,Tryz.ntmps183
  go_wp2_with fail
  rw [<- hw1]
  refine Calls.mono HU.out ?_
  rintro e w2 ⟨rfl,rfl⟩
  clear HU hw1
  unfold perr
  go_wp2
  go_ret
  exact ⟨rfl,B1.out⟩
def RecV (w:World) (k:Int) (body:List Int) (v:Value):Prop :=
 (k = 2 /\ v = hdV (hdZ body)) \/ (k = 3 /\ ∃ g,v = .iface 207 (.slice (some ⟨g,0,none⟩) body.length body.length) /\ Blk .u8 5 w g body) \/ (k = 4 /\ ∃ g,v = .iface 208 (.slice (some ⟨g,0,none⟩) body.length body.length) /\ Blk .u8 5 w g body) \/ (k ≠ 2 /\ k ≠ 3 /\ k ≠ 4 /\ v = .nilIface)
theorem recordOf_any {w:World} {g n:Nat} {k:Int} {body:List Int} (hB:Blk .u8 5 w g body) (hb:Pl.isB body) (hn:body.length = n) :
  Calls Tryz.prog 156 #[.int .i64 k,.slice (some ⟨g,0,none⟩) n n] w fun e w'=> ∃ v,e = .returned v /\ RecV w' k body v /\ Below w.heap.size w w':=by
 by_cases h2:k = 2
 ·subst h2
  have H:=hid (headOf_any hB hb hn)
  clear hB hb hn
  generalize hv:hdV (hdZ body) = v at *
  go_enter Tryz.func156,Tryz.ntmps156
  go_wp2_with fail
  refine Calls.mono H.out ?_
  rintro e w1 ⟨rfl,b1⟩
  have FIN:=hid b1
  clear H b1
  go_wp2
  go_ret
  exact ⟨v,rfl,.inl ⟨rfl,hv.symm⟩,FIN.out⟩
 ·by_cases h3:k = 3
  ·subst h3
   have FIN:Hid (RecV w 3 body (.iface 207 (.slice (some ⟨g,0,none⟩) n n))):=.inr (.inl ⟨rfl,g,by rw [hn],hB⟩)
   clear hB hb hn h2
   go_enter Tryz.func156,Tryz.ntmps156
   go_wp2
   go_ret
   exact ⟨_,rfl,FIN.out,Below.refl _ _⟩
  ·by_cases h4:k = 4
   ·subst h4
    have FIN:Hid (RecV w 4 body (.iface 208 (.slice (some ⟨g,0,none⟩) n n))):=.inr (.inr (.inl ⟨rfl,g,by rw [hn],hB⟩))
    clear hB hb hn h2 h3
    go_enter Tryz.func156,Tryz.ntmps156
    go_wp2
    go_ret
    exact ⟨_,rfl,FIN.out,Below.refl _ _⟩
   ·have FIN:Hid (RecV w k body .nilIface):=.inr (.inr (.inr ⟨h2,h3,h4,rfl⟩))
    clear hB hb hn
    go_enter Tryz.func156,Tryz.ntmps156
    go_wp2
    go_ret
    exact ⟨_,rfl,FIN.out,Below.refl _ _⟩
open Go.RowKit
def RecP (w:World) (o:Option (Int × Int × List Int)) (v:Value) (life:Int):Prop :=
 match o with
 | none=> v = .nilIface /\ life = 0
 | some (k,l,body)=> life = l /\ RecV w k body v /\ Pl.isB body /\ body.length <= 497 /\ 0 <= l /\ l <= 1099511627776
theorem Jq.dread {Z:Nat -> Prop} {w:World} {j c p room nb K fr bl:Nat} {d:Pd} {s:Js} (h:Jq Z w j c p room nb K fr bl d s) (hl:d.puts.length <= 1073741824) (hon:d.off = false) (x:Nat) (hx:x < nb) :
  (Calls Tryz.prog 141 #[.pointer (some ⟨p,0,none⟩),.int .i64 (x:Int)] w fun e w'=> ∃ g cp,e = .returned (.tuple #[.slice (some ⟨g,0,none⟩) 512 cp,.int .i64 0]) /\ w.heap.size <= g /\ Own w' g 512 cp (d.read x) /\ Below w.heap.size w w') /\ (d.read x).length = 512 /\ Pl.isB (d.read x):=by
 obtain ⟨Zc,m,n,D,a,h⟩:=h
 exact ⟨h.cq.dread hl hon x hx,Pd.read_len h.cq x hx⟩
theorem readRecord_any {Z:Nat -> Prop} {w:World} {j c p room nb K fr bl:Nat} {d:Pd} {s:Js} (h:Jq Z w j c p room nb K fr bl d s) (hl:d.puts.length <= 1073741824) (hon:d.off = false) (x:Nat) (hx:x < nb) :
  Calls Tryz.prog 138 #[.pointer (some ⟨j,0,none⟩),.int .i64 (x:Int)] w fun e w'=> ∃ v life,e = .returned (.tuple #[v,.int .i64 life,.int .i64 0]) /\ RecP w' (unZ (d.read x)) v life /\ Below w.heap.size w w':=by
 obtain ⟨mv,hJ,hZj⟩:=h.cells
 have j0:=hJ.cell 0
 simp at j0
 obtain ⟨_,c0,_⟩:=h.dk
 obtain ⟨HR0,hlen,hb⟩:=h.dread hl hon x hx
 have HR:=hid HR0
 have HB:=hid hb
 clear hJ h hl hlen hb HR0
 go_enter Tryz.func138,Tryz.ntmps138
 go_wp2_with fail
 refine Calls.mono HR.out ?_
 rintro e w1 ⟨g,cp,rfl,hg,ho,b1⟩
 have HU:=hid (Unstamp_any ho HB.out)
 have B1:=hid b1
 clear hg ho b1 HR j0 c0
 go_wp2_with fail
 refine Calls.mono HU.out ?_
 rintro e w2 ⟨hu,b2⟩
 have B2:=hid (B1.out.trans (b2.mono B1.out.size))
 have hrec:∀ (w':World) (v:Value) (life:Int),RecP w' (unZ (d.read x)) v life -> RecP w' (unZ (d.read x)) v life:=fun _ _ _ q=> q
 cases hz:unZ (d.read x) with
 | none=>
  rw [hz] at hu
  obtain ⟨code,rfl,hc⟩:=hu
  have HZ:=hid hz
  clear HU B1 b2 hrec hz HB
  unfold uerr
  go_wp2
  go_ret3
  exact ⟨.nilIface,0,rfl,by rw [HZ.out]; exact ⟨rfl,rfl⟩,B2.out⟩
 | some r=>
  obtain ⟨k,l,body⟩:=r
  rw [hz] at hu
  obtain ⟨g2,rfl,q1,q2,q3,q4,q5,q6,q7⟩:=hu
  have HV:=hid (recordOf_any (k:=k) q2 q3 rfl)
  have HZ:=hid hz
  have QQ:=hid (And.intro q3 (And.intro q4 (And.intro q6 q7)))
  clear HU B1 b2 hrec hz HB q1 q2 q3 q4 q5 q6 q7
  generalize hbl:body.length = n at *
  go_wp2_with fail
  refine Calls.mono HV.out ?_
  rintro e w3 ⟨v,rfl,hv,b3⟩
  have FIN:Hid (RecP w3 (some (k,l,body)) v l /\ Below w.heap.size w w3):=⟨⟨rfl,hv,QQ.out.1,by rw [hbl]; exact QQ.out.2.1,QQ.out.2.2⟩,B2.out.trans (b3.mono B2.out.size)⟩
  clear hv b3 HV QQ B2
  go_wp2
  go_ret3
  exact ⟨v,l,rfl,by rw [HZ.out]; exact FIN.out.1,FIN.out.2⟩
end Go.Proofs.YthfojpcibnfmgaaGreat
