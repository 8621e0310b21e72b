import Derived.Test.YthfojpcibnfmgaaGreatV10
import Derived.Test.YthfojpcibnfmgaaGreatV00
import Derived.Deep.RegionHeld3
import Derived.Shelf.SlIterI.Nil
import Derived.Shelf.SortM.Plain
import Derived.Shelf.SortM.SortNone
set_option maxRecDepth 100000
set_option maxHeartbeats 16000000
namespace Go.Proofs.YthfojpcibnfmgaaGreat
variable {Z Z0:Nat->Prop}
variable {w w' w0 w1:World}
variable {K bl fr j k nb p:Nat}
variable {d:Pd}
variable {s' sE:Js}
variable {cs:List Cmd}
variable {H α:Type}
variable {P:Program}
variable {ops:Array Oper}
variable {md:Region.Mode}
variable {S:World->Prop}
variable {po:String}
variable {af:Array Edge}
open Go.RowKit
def Did (Z:Nat->Prop) (w:World) (j c p room nb K fr bl:Nat) (d:Pd) (cs:List Cmd) (sE:Js) (e:Ending) (w':World):Prop :=
 e=.returned (.int .i64 (d.runs cs).1)/\(∃Z' s',Jq Z' w' j c p room nb K fr bl (d.runs cs).2 s'/\((d.runs cs).1=0->s'=sE)/\Gr Z Z' w)/\But Z w w'
theorem Did.of_one{c room:Nat}{x:Cmd}{f:Nat}{args:Array Value}(H:Calls Tryz.prog f args w fun e w'=>e=.returned (.int .i64 (d.run1 x).1)/\(∃Z',Jq Z' w' j c p room nb K fr bl (d.run1 x).2 sE/\Gr Z Z' w)/\But Z w w'):Calls Tryz.prog f args w (Did Z w j c p room nb K fr bl d [x] sE):=by
 refine Calls.mono H ?_
 rintro e w' ⟨rfl,⟨Z',h1,h2⟩,b⟩
 unfold Did
 rw[Pd.runs_one]
 exact⟨rfl,⟨Z',sE,h1,fun _=>rfl,h2⟩,b⟩
theorem Did.of_list{c room:Nat}{f:Nat}{args:Array Value}(H:Calls Tryz.prog f args w fun e w'=>e=.returned (.int .i64 (d.runs cs).1)/\(∃Z',Jq Z' w' j c p room nb K fr bl (d.runs cs).2 sE/\Gr Z Z' w)/\But Z w w'):Calls Tryz.prog f args w (Did Z w j c p room nb K fr bl d cs sE):=by
 refine Calls.mono H ?_
 rintro e w' ⟨rfl,⟨Z',h1,h2⟩,b⟩
 exact⟨rfl,⟨Z',sE,h1,fun _=>rfl,h2⟩,b⟩
theorem Did.from{c room:Nat}{e:Ending}(h:Did Z w j c p room nb K fr bl d cs sE e w')(hg:Gr Z0 Z w0)(hb:But Z0 w0 w):Did Z0 w0 j c p room nb K fr bl d cs sE e w':=by
 obtain⟨h1,⟨Z',s',h2,h3,h4⟩,h5⟩:=h
 exact⟨h1,⟨Z',s',h2,h3,hg.trans h4 hb.size⟩,hb.comp h5 (fun k hk q=>hg k hk q)⟩
theorem Turn.jstep {c room f:Nat} {r:Value} {fs:List (Nat×Value)} {all done rest:List Cmd} (hall:all=done++cs++rest) (hz:(d.runs done).1=0) (hG:Gr Z0 Z w0) (hB:But Z0 w0 w) (hk:¬Z k) (hkl:k<w.heap.size)
  (H:Calls Tryz.prog f #[r] w (Did Z w j c p room nb K fr bl (d.runs done).2 cs s'))
  (next:∀Z' w',(d.runs (done++cs)).1=0->Jq Z' w' j c p room nb K fr bl (d.runs (done++cs)).2 s'->Gr Z0 Z' w0->But Z0 w0 w'->¬Z' k->k<w'.heap.size->Turn k (Did Z0 w0 j c p room nb K fr bl d all sE) fs w') :
  Turn k (Did Z0 w0 j c p room nb K fr bl d all sE) ((f,r) :: fs) w:=by
 have e1:d.runs (done++cs)=(d.runs done).2.runs cs:=by rw[Pd.runs_append,if_pos hz]
 refine Calls.mono H ?_
 rintro e w' ⟨rfl,⟨Z',s1,h2,h3,h4⟩,h5⟩
 refine⟨((d.runs done).2.runs cs).1,rfl,fun hc=>?_,fun hc=>⟨h5.block k hkl hk,?_⟩⟩
 ·have e2:d.runs all=(d.runs done).2.runs cs:=by rw[hall,Pd.runs_stop (by rw[e1];exact hc),e1]
  unfold Did
  rw[e2]
  exact⟨rfl,⟨Z',s1,h2,fun q=>absurd q hc,hG.trans h4 hB.size⟩,hB.comp h5 (fun k hk q=>hG k hk q)⟩
 ·rw[<- e1]at hc h2
  rw[<- e1]at h3
  rw[h3 hc]at h2
  exact next Z' w' hc h2 (hG.trans h4 hB.size) (hB.comp h5 (fun k hk q=>hG k hk q)) (fun q=>hk (h4 k hkl q)) (Nat.lt_of_lt_of_le hkl h5.size)
theorem Turn.jend{c room:Nat}{all:List Cmd}(hz:(d.runs all).1=0)(hJ:Jq Z w j c p room nb K fr bl (d.runs all).2 sE)(hG:Gr Z0 Z w0)(hB:But Z0 w0 w):Turn k (Did Z0 w0 j c p room nb K fr bl d all sE) [] w:=by
 show Did _ _ _ _ _ _ _ _ _ _ _ _ _ _ _
 exact⟨by rw[hz],⟨Z,sE,hJ,fun _=>rfl,hG⟩,hB⟩
theorem steps_ready(w:World)(vs:Array Value)(fs:List (Nat×Value))(h:∀(i:Nat) (f:Nat×Value),fs[i]?=some f->vs[i]?=some (Value.func (Fn.func f.1) #[f.2] #[]))(e:w1=(w.alloc (.cells vs 84)).drew):Below w.heap.size w w1/\w1.heap.size=w.heap.size+1/\∀(i:Nat) (f:Nat×Value),fs[i]?=some f->w1.cell? ⟨w.heap.size,i,none⟩=some (.func (.func f.1) #[f.2] #[]):=by
 subst e
 exact⟨((Below.refl _ _).alloc (Nat.le_refl _) _).drew,by simp,fun i f hf=>cell_new rfl i _ (h i f hf)⟩
def goCmds (fr bl:Nat) (s:Js):List Cmd:=if s.life≠0/\s.life<1099511627776 then [.wr fr (headZ fr bl (s.life+1) s.seq)] else [.wr fr (headZ fr bl 0 s.seq)]++[.fl]++wipes fr bl (fr+1) (bl-1)++[.fl]++[.wr fr (headZ fr bl 1 s.seq)]
def goS (s:Js):Js:=if s.life≠0/\s.life<1099511627776 then beginS s else ⟨1,s.seq,0,fun _=>none⟩
theorem go_turn{c room:Nat}{s:Js}(h:Jq Z w1 j c p room nb K fr bl d s)(hb:Below w.heap.size w w1)(hk:k<w1.heap.size)(hkZ:¬Z k)(hn:Jn nb fr bl s)(hl:d.puts.length+bl+4<=1073741823) :
  Turn k (Did Z w j c p room nb K fr bl d ([.wr fr (headZ fr bl 0 s.seq)]++[.fl]++wipes fr bl (fr+1) (bl-1)++[.fl]++[.wr fr (headZ fr bl 1 s.seq)]) ⟨1,s.seq,0,fun _=>none⟩) [(164,.pointer (some ⟨j,0,none⟩)),(95,.pointer (some ⟨c,0,none⟩)),(112,.pointer (some ⟨j,0,none⟩)),(95,.pointer (some ⟨c,0,none⟩)),(113,.pointer (some ⟨j,0,none⟩))] w1:=by
 have hn1:Jn nb fr bl (endS s):=⟨hn.lo,hn.fit,hn.nb,Nat.zero_le _,hn.seq,hn.used⟩
 have hp:=fun cs=>d.runs_puts cs
 refine Turn.jstep (done:=[]) (cs:=[.wr fr (headZ fr bl 0 s.seq)]) (rest:=[.fl]++wipes fr bl (fr+1) (bl-1)++[.fl]++[.wr fr (headZ fr bl 1 s.seq)]) (by simp) rfl (Gr.refl _ _) (But.of_below hb) hkZ hk (Did.of_one (endLives_any h hn (by simp[Pd.runs];omega))) (fun Z1 w1 z1 h1 g1 b1 k1 l1=>?_)
 have p1:=hp ([]++[.wr fr (headZ fr bl 0 s.seq)])
 simp at p1
 refine Turn.jstep (done:=[]++[.wr fr (headZ fr bl 0 s.seq)]) (cs:=[.fl]) (rest:=wipes fr bl (fr+1) (bl-1)++[.fl]++[.wr fr (headZ fr bl 1 s.seq)]) (by simp) z1 g1 b1 k1 l1 (Did.of_one (h1.flush (by simp;omega))) (fun Z2 w2 z2 h2 g2 b2 k2 l2=>?_)
 have p2:=hp ([]++[.wr fr (headZ fr bl 0 s.seq)]++[.fl])
 simp at p2
 refine Turn.jstep (done:=[]++[.wr fr (headZ fr bl 0 s.seq)]++[.fl]) (cs:=wipes fr bl (fr+1) (bl-1)) (rest:=[.fl]++[.wr fr (headZ fr bl 1 s.seq)]) (by simp) z2 g2 b2 k2 l2 (Did.of_list (wipeLog_any h2 hn1 (by simp;omega))) (fun Z3 w3 z3 h3 g3 b3 k3 l3=>?_)
 have p3:=hp ([]++[.wr fr (headZ fr bl 0 s.seq)]++[.fl]++wipes fr bl (fr+1) (bl-1))
 simp[length_wipes]at p3
 refine Turn.jstep (done:=[]++[.wr fr (headZ fr bl 0 s.seq)]++[.fl]++wipes fr bl (fr+1) (bl-1)) (cs:=[.fl]) (rest:=[.wr fr (headZ fr bl 1 s.seq)]) (by simp) z3 g3 b3 k3 l3 (Did.of_one (h3.flush (by simp;omega))) (fun Z4 w4 z4 h4 g4 b4 k4 l4=>?_)
 have p4:=hp ([]++[.wr fr (headZ fr bl 0 s.seq)]++[.fl]++wipes fr bl (fr+1) (bl-1)++[.fl])
 simp[length_wipes]at p4
 refine Turn.jstep (done:=[]++[.wr fr (headZ fr bl 0 s.seq)]++[.fl]++wipes fr bl (fr+1) (bl-1)++[.fl]) (cs:=[.wr fr (headZ fr bl 1 s.seq)]) (rest:=[]) (by simp) z4 g4 b4 k4 l4 (Did.of_one (beginLife_any h4 hn1 (by simp[endS]) (by simp;omega))) (fun Z5 w5 z5 h5 g5 b5 k5 l5=>?_)
 exact Turn.jend (by simpa using z5) (by simpa [beginS,endS] using h5) g5 b5
open Go.RowKit
theorem zA(l:List α)(i:Nat)(a:α):l.toArray.setIfInBounds i a=(l.set i a).toArray:=by simp only[List.setIfInBounds_toArray]
theorem zB(l:List α)(a b:α):(a :: l).set 0 b=b :: l:=rfl
theorem zC(l:List α)(n:Nat)(a b:α):(a :: l).set (n+1) b=a :: l.set n b:=rfl
theorem tj {Q:Exit->Act->World->Prop} {oi:Oper} {v:Value} {fuel:Nat} {listed:Array Bool} {a:Act} (i:Nat) (hi:ops[i]?=some oi) (hS:S w)
  (h:wpAnyH P md ops Q S fuel (listed.setIfInBounds i true) (a.put oi.dst v) w)
  (hk:(Region.noSelect ops && (Region.free md ops listed i && (Region.ready md ops listed).contains i))=true:=by kernel_rfl) (hQ:∀c a w,Q (.panic c) (a.put oi.dst v) w->Q (.panic c) a w:=by exact fun _ _ _ h=>h) (hw:Region.wanted oi (yielded ops a.tmps)=true:=by rfl) (hy:∀w,S w->(execOp a.eval oi).run P w=.ok (.value v) w:=by (intro a h;(try dsimp only at h);(try go_split_ands);go_simp;try with_reducible rfl)):wpAnyH P md ops Q S (fuel+1) listed a w:=by
 simp only[Bool.and_eq_true]at hk
 exact wpAnyH_take hi hk.1 hk.2.1 hk.2.2 hQ (Or.inl ⟨hw,hy⟩) hS h
theorem Ti {Q:Exit->Act->World->Prop} {fuel:Nat} {listed:Array Bool} {a:Act} {d:Option Tmp} {o:Op} {t:TypeId} {g:Option (Nat×Bool)} {v:Value} (i:Nat) (hi:ops[i]?=some ⟨d,o,t,po,af,g⟩)
  (h:wpAnyH P md ops Q S fuel (listed.setIfInBounds i true) (a.put d v) w)
  (hS:S w:=by assumption) (hk:(Region.noSelect ops && (Region.free md ops listed i && (Region.ready md ops listed).contains i))=true:=by kernel_rfl) (hQ:∀c a w,Q (.panic c) (a.put d v) w->Q (.panic c) a w:=by exact fun _ _ _ h=>h) (hw:Region.wanted ⟨d,o,t,po,af,g⟩ (yielded ops a.tmps)=true:=by rfl) (hy:∀w,S w->(execOp a.eval ⟨d,o,t,po,af,g⟩).run P w=.ok (.value v) w:=by (intro a h;(try dsimp only at h);(try go_split_ands);go_simp;try with_reducible rfl)):wpAnyH P md ops Q S (fuel+1) listed a w:=by
 simp only[Bool.and_eq_true]at hk
 exact wpAnyH_take hi hk.1 hk.2.1 hk.2.2 hQ (Or.inl ⟨hw,hy⟩) hS h
theorem Si {Q:Exit->Act->World->Prop} {fuel:Nat} {listed:Array Bool} {a:Act} {d:Option Tmp} {o:Op} {t:TypeId} {g:Option (Nat×Bool)} (i:Nat) (hi:ops[i]?=some ⟨d,o,t,po,af,g⟩)
  (h:wpAnyH P md ops Q S fuel (listed.setIfInBounds i true) (a.put d undef) w)
  (hS:S w:=by assumption) (hk:(Region.noSelect ops && (Region.free md ops listed i && (Region.ready md ops listed).contains i))=true:=by kernel_rfl) (hQ:∀c a w,Q (.panic c) (a.put d undef) w->Q (.panic c) a w:=by exact fun _ _ _ h=>h) (hw:Region.wanted ⟨d,o,t,po,af,g⟩ (yielded ops a.tmps)=false:=by rfl):wpAnyH P md ops Q S (fuel+1) listed a w:=by
 simp only[Bool.and_eq_true]at hk
 exact wpAnyH_take hi hk.1 hk.2.1 hk.2.2 hQ (Or.inr ⟨hw,rfl⟩) hS h
theorem Ri {Q:Exit->Act->World->Prop} {fuel:Nat} {listed:Array Bool} {a:Act} {d:Option Tmp} {o:Op} {t:TypeId} {g:Option (Nat×Bool)} (i:Nat) (ho:ops[i]?=some ⟨d,o,t,po,af,g⟩)
  (h:∀K':Act->World->Prop,Shut (∀a w,S w->(S w->wpAnyH P md ops Q S fuel (listed.setIfInBounds i true) a w)->K' a w)->if Region.wanted ⟨d,o,t,po,af,g⟩ (yielded ops a.tmps)=true then Oper.wp P ⟨d,o,t,po,af,g⟩ a w K' Q else K' (a.put d undef) w) (hr:Region.ready md ops listed=[i]:=by kernel_rfl):wpAnyH P md ops Q S (fuel+1) listed a w:=wpAnyH_ready hr (by simp) (AllReadyH.cons ho h AllReadyH.nil)
theorem Rr{Q:Exit->Act->World->Prop}{p2:String}{f2:Array Edge}{fuel:Nat}{listed:Array Bool}{a:Act}{d d2:Option Tmp}{o o2:Op}{t t2:TypeId}{g g2:Option (Nat×Bool)}(i k:Nat)(ho:ops[i]?=some ⟨d,o,t,po,af,g⟩)(hp:ops[k]?=some ⟨d2,o2,t2,p2,f2,g2⟩)(h:∀K':Act->World->Prop,Shut (∀a w,S w->(S w->wpAnyH P md ops Q S fuel (listed.setIfInBounds i true) a w)->K' a w)->if Region.wanted ⟨d,o,t,po,af,g⟩ (yielded ops a.tmps)=true then Oper.wp P ⟨d,o,t,po,af,g⟩ a w K' Q else K' (a.put d undef) w)(h2:∀K':Act->World->Prop,Shut (∀a w,S w->(S w->wpAnyH P md ops Q S fuel (listed.setIfInBounds k true) a w)->K' a w)->if Region.wanted ⟨d2,o2,t2,p2,f2,g2⟩ (yielded ops a.tmps)=true then Oper.wp P ⟨d2,o2,t2,p2,f2,g2⟩ a w K' Q else K' (a.put d2 undef) w)(hr:Region.ready md ops listed=[i,k]:=by kernel_rfl):wpAnyH P md ops Q S (fuel+1) listed a w:=wpAnyH_ready hr (by simp) (AllReadyH.cons ho h (AllReadyH.cons hp h2 AllReadyH.nil))
theorem Gz{Q:Exit->Act->World->Prop}{id:Nat}{a:Act}(hS:S w.drew)(h:S w.drew->wpAnyH P .any ops Q S ops.size (Array.replicate ops.size false) a w.drew)(hm:P.follows .mixedOrders=true:=by kernel_rfl):(Code.region id ops true).wp P Q a w:=wp_region_held_drew hm hS h
theorem Dn{Q:Exit->Act->World->Prop}{fuel:Nat}{listed:Array Bool}{a:Act}(h:Q .normal a w)(hr:Region.ready md ops listed=[]:=by kernel_rfl):wpAnyH P md ops Q S fuel listed a w:=wpAnyH_done hr h _
open Go.RowKit
theorem Did.c0{c room:Nat}{e:Ending}(h:Did Z w j c p room nb K fr bl d cs sE e w'):w'.cell? ⟨j,0,none⟩=some (.pointer (some ⟨c,0,none⟩)):=by
 obtain⟨_,⟨Z',s',h2,_⟩,_⟩:=h
 obtain⟨mv,hJ,_⟩:=h2.cells
 exact hJ.cell 0
theorem five_in(a b:Nat)(i:Nat)(g:Nat×Value)(hg:[((164:Nat),Value.pointer (some ⟨a,0,none⟩)),(95,.pointer (some ⟨b,0,none⟩)),(112,.pointer (some ⟨a,0,none⟩)),(95,.pointer (some ⟨b,0,none⟩)),(113,.pointer (some ⟨a,0,none⟩))][i]?=some g):g.1=114\/g.1=115\/g.1=116\/g.1=117\/g.1=111\/g.1=95\/g.1=112\/g.1=113\/g.1=94\/g.1=135\/g.1=144\/g.1=145\/g.1=164:=by
 have:=List.mem_of_getElem? hg
 simp at this
 rcases this with rfl | rfl | rfl | rfl | rfl <;> simp
theorem letLogGo_any{c room:Nat}{s:Js}(h:Jq Z w j c p room nb K fr bl d s)(hn:Jn nb fr bl s)(hl:d.puts.length+bl+4<=1073741823) :
  Calls Tryz.prog 145 #[.pointer (some ⟨j,0,none⟩)] w (Did Z w j c p room nb K fr bl d (goCmds fr bl s) (goS s)):=by
 obtain⟨mv,hJ,hZj⟩:=h.cells
 have hjl:=hJ.lt
 have j3:=hJ.cell 3
 have j0:=hJ.cell 0
 simp at j3 j0
 by_cases hc:s.life≠0/\s.life<1099511627776
 ·have e1:goCmds fr bl s=[.wr fr (headZ fr bl (s.life+1) s.seq)]:=if_pos hc
  have e2:goS s=beginS s:=if_pos hc
  rw[e1,e2]
  have HW:=hid (Did.of_one (beginLife_any h hn hc.2 (by omega)))
  have c1:¬(s.life:Int)=0:=by omega
  have c2:(s.life:Int)<1099511627776:=by omega
  clear hJ h hn hl hc e1 e2 j0
  generalize (s.life:Int)=lf at j3 c1 c2
  go_enter Tryz.func145,Tryz.ntmps145
  go_wp2_with fail
  refine Calls.mono HW.out ?_
  intro e w2 q
  have FIN:=hid q
  obtain⟨he,_⟩:=q
  subst he
  clear HW j3
  go_wp2
  go_ret
  exact FIN.out
 ·have e1:goCmds fr bl s=[.wr fr (headZ fr bl 0 s.seq)]++[.fl]++wipes fr bl (fr+1) (bl-1)++[.fl]++[.wr fr (headZ fr bl 1 s.seq)]:=if_neg hc
  have e2:goS s=⟨1,s.seq,0,fun _=>none⟩:=if_neg hc
  rw[e1,e2]
  clear e1 e2
  obtain⟨w1,hw1⟩:∃w1,w1=(w.alloc (.cells #[.func (.func 164) #[.pointer (some ⟨j,0,none⟩)] #[],.func (.func 95) #[.pointer (some ⟨c,0,none⟩)] #[],.func (.func 112) #[.pointer (some ⟨j,0,none⟩)] #[],.func (.func 95) #[.pointer (some ⟨c,0,none⟩)] #[],.func (.func 113) #[.pointer (some ⟨j,0,none⟩)] #[]] 84)).drew:=⟨_,rfl⟩
  obtain⟨b1,z1,F1⟩:=steps_ready w _ [((164:Nat),Value.pointer (some ⟨j,0,none⟩)),(95,.pointer (some ⟨c,0,none⟩)),(112,.pointer (some ⟨j,0,none⟩)),(95,.pointer (some ⟨c,0,none⟩)),(113,.pointer (some ⟨j,0,none⟩))] (fun i f hf=>by
   rcases i with _ | _ | _ | _ | _ | i
   ·cases hf;rfl
   ·cases hf;rfl
   ·cases hf;rfl
   ·cases hf;rfl
   ·cases hf;rfl
   ·simp at hf) hw1
  have HT:=go_turn (w:=w) (k:=w.heap.size) (h.cut.below b1) b1 (by omega) (fun q=>by have:=q.2;omega) hn hl
  have HI:=hid (inTurn_any (k:=w.heap.size) _ (by simp) (five_in j c) w1 F1 HT)
  have c1:(s.life:Int)=0\/¬(s.life:Int)<1099511627776:=by omega
  clear HT
  generalize [Cmd.wr fr (headZ fr bl 0 s.seq)]++[.fl]++wipes fr bl (fr+1) (bl-1)++[.fl]++[.wr fr (headZ fr bl 1 s.seq)]=cs at HI ⊢
  clear hJ h hn hl hc F1 z1 b1
  generalize (s.life:Int)=lf at j3 c1
  have HW1:=hid hw1
  clear hw1
  go_enter Tryz.func145,Tryz.ntmps145
  rcases c1 with c1 | c1
  ·rw[c1]at j3
   go_wp2_with fail
   clear c1 j3
   refine wp_region_noPanic ?_
   refine Gz (S:=fun w'=>w'.cell? ⟨j,0,none⟩=some (.pointer (some ⟨c,0,none⟩))) j0 (fun hSS=>?_)
   refine tj 0 rfl hSS ?_
   simp only[Act.put,List.setIfInBounds_toArray]
   refine tj 1 rfl hSS ?_
   simp only[Act.put]
   refine tj 2 rfl hSS ?_
   simp only[Act.put]
   refine tj 3 rfl hSS ?_
   simp only[Act.put]
   refine tj 4 rfl hSS ?_
   simp only[Act.put]
   refine tj 5 rfl hSS ?_
   simp only[Act.put]
   refine tj 6 rfl hSS ?_
   simp only[Act.put]
   refine tj 7 rfl hSS ?_
   simp only[Act.put]
   refine tj 8 rfl hSS ?_
   simp only[Act.put]
   refine tj 9 rfl hSS ?_
   simp only[Act.put]
   refine tj 10 rfl hSS ?_
   simp only[Act.put]
   refine tj 11 rfl hSS ?_
   simp only[Act.put]
   refine tj 12 rfl hSS ?_
   simp only[Act.put]
   refine tj 13 rfl hSS ?_
   simp only[Act.put]
   refine tj 14 rfl hSS ?_
   simp only[Act.put]
   refine tj 15 rfl hSS ?_
   simp only[Act.put]
   refine Ri 16 rfl (fun K9 hK9=>?_)
   go_simp
   refine hK9.out _ _ ((World.cell?_alloc_past _ _ _ hjl).trans j0) (fun hSS2=>?_)
   clear hK9 K9 hSS
   refine Ri 17 rfl (fun K9 hK9=>?_)
   go_simp
   go_at_call 110
   rw[<- HW1.out]
   refine Calls.mono HI.out ?_
   intro e w2 q
   have FIN:=hid q
   have q0:=q.c0
   obtain⟨he,_⟩:=q
   subst he
   dsimp only
   refine hK9.out _ _ q0 (fun hSS3=>?_)
   clear hK9 K9 hSS2
   refine tj 18 rfl hSS3 ?_
   dsimp [Act.put]
   refine Dn (NoPanic.normal ?_)
   clear j0 HI HW1 q0 hSS3
   go_wp2
   go_ret
   exact FIN.out.from (fun k _ q=>q.1) (But.refl _ _)
  ·by_cases c0:lf=0
   ·omega
   ·go_wp2_with fail
    clear c1 c0 j3
    refine wp_region_noPanic ?_
    refine Gz (S:=fun w'=>w'.cell? ⟨j,0,none⟩=some (.pointer (some ⟨c,0,none⟩))) j0 (fun hSS=>?_)
    refine tj 0 rfl hSS ?_
    simp only[Act.put,List.setIfInBounds_toArray]
    refine tj 1 rfl hSS ?_
    simp only[Act.put]
    refine tj 2 rfl hSS ?_
    simp only[Act.put]
    refine tj 3 rfl hSS ?_
    simp only[Act.put]
    refine tj 4 rfl hSS ?_
    simp only[Act.put]
    refine tj 5 rfl hSS ?_
    simp only[Act.put]
    refine tj 6 rfl hSS ?_
    simp only[Act.put]
    refine tj 7 rfl hSS ?_
    simp only[Act.put]
    refine tj 8 rfl hSS ?_
    simp only[Act.put]
    refine tj 9 rfl hSS ?_
    simp only[Act.put]
    refine tj 10 rfl hSS ?_
    simp only[Act.put]
    refine tj 11 rfl hSS ?_
    simp only[Act.put]
    refine tj 12 rfl hSS ?_
    simp only[Act.put]
    refine tj 13 rfl hSS ?_
    simp only[Act.put]
    refine tj 14 rfl hSS ?_
    simp only[Act.put]
    refine tj 15 rfl hSS ?_
    simp only[Act.put]
    refine Ri 16 rfl (fun K9 hK9=>?_)
    go_simp
    refine hK9.out _ _ ((World.cell?_alloc_past _ _ _ hjl).trans j0) (fun hSS2=>?_)
    clear hK9 K9 hSS
    refine Ri 17 rfl (fun K9 hK9=>?_)
    go_simp
    go_at_call 110
    rw[<- HW1.out]
    refine Calls.mono HI.out ?_
    intro e w2 q
    have FIN:=hid q
    have q0:=q.c0
    obtain⟨he,_⟩:=q
    subst he
    dsimp only
    refine hK9.out _ _ q0 (fun hSS3=>?_)
    clear hK9 K9 hSS2
    refine tj 18 rfl hSS3 ?_
    dsimp [Act.put]
    refine Dn (NoPanic.normal ?_)
    clear j0 HI HW1 q0 hSS3
    go_wp2
    go_ret
    exact FIN.out.from (fun k _ q=>q.1) (But.refl _ _)
open Go.RowKit Go.Maps Go.Sort Go.Shelf
def keysA_ren:Go.Shelf.Ren:=⟨fun | 7=>163 | 10=>187 | n=>n,fun | 23=>163 | 26=>3 | 3=>40 | 28=>181 | 0=>0 | 27=>180 | 33=>127 | 4=>4 | n=>n,fun | n=>n⟩
theorem keysA:Go.Proofs.SlLaysZI.n7 Tryz.prog keysA_ren:={
 mixed:=by kernel_rfl
 f7:=⟨Tryz.f163.name,by decide,Tryz.func163.trans (congrArg some (by kernel_rfl))⟩
 f10:=⟨Tryz.f187.name,by decide,Tryz.func187.trans (congrArg some (by kernel_rfl))⟩
 t0:=Tryz.underlying0
 a0:=Tryz.isAgg0
 z0:=Tryz.sizeOf0
 v0:=Tryz.zeroValue0
 t4:=Tryz.underlying4
 a4:=Tryz.isAgg4
 z4:=Tryz.sizeOf4
 v4:=Tryz.zeroValue4
 t23:=Tryz.underlying163
 a23:=Tryz.isAgg163
 z23:=Tryz.sizeOf163
 v23:=Tryz.zeroValue163
 t26:=Tryz.underlying3
 a26:=Tryz.isAgg3
 z26:=Tryz.sizeOf3
 v26:=Tryz.zeroValue3
 t27:=Tryz.underlying180
 a27:=Tryz.isAgg180
 z27:=Tryz.sizeOf180
 v27:=Tryz.zeroValue180
 t28:=Tryz.underlying181
 a28:=Tryz.isAgg181
 z28:=Tryz.sizeOf181
 v28:=Tryz.zeroValue181
 t33:=Tryz.underlying127
 a33:=Tryz.isAgg127
 z33:=Tryz.sizeOf127
 v33:=Tryz.zeroValue127 }
def sortedA_ren:Go.Shelf.Ren:=⟨fun | 6=>99 | 8=>126 | 9=>127 | 11=>147 | 13=>149 | 12=>148 | 23=>174 | 24=>175 | 14=>165 | 15=>166 | 16=>167 | 17=>168 | 18=>169 | 19=>170 | 20=>171 | 21=>172 | 22=>173 | 25=>188 | 26=>189 | 27=>190 | 28=>191 | 29=>192 | 30=>193 | 31=>200 | n=>n,fun | 26=>3 | 28=>181 | 24=>37 | 0=>0 | 3=>3 | 37=>199 | 48=>249 | 50=>251 | 4=>4 | 40=>242 | 39=>241 | 45=>202 | 5=>5 | 9=>9 | 51=>259 | 55=>263 | 57=>270 | 58=>142 | 33=>127 | n=>n,fun | n=>n⟩
theorem sortedA:Go.Proofs.SlLaysZI.n6 Tryz.prog sortedA_ren:={
 mixed:=by kernel_rfl
 f6:=⟨Tryz.f99.name,by decide,Tryz.func99.trans (congrArg some (by kernel_rfl))⟩
 f8:=⟨Tryz.f126.name,by decide,Tryz.func126.trans (congrArg some (by kernel_rfl))⟩
 f11:=⟨Tryz.f147.name,by decide,Tryz.func147.trans (congrArg some (by kernel_rfl))⟩
 t0:=Tryz.underlying0
 a0:=Tryz.isAgg0
 z0:=Tryz.sizeOf0
 v0:=Tryz.zeroValue0
 t24:=Tryz.underlying37
 a24:=Tryz.isAgg37
 z24:=Tryz.sizeOf37
 v24:=Tryz.zeroValue37
 t26:=Tryz.underlying3
 a26:=Tryz.isAgg3
 z26:=Tryz.sizeOf3
 v26:=Tryz.zeroValue3
 t28:=Tryz.underlying181
 a28:=Tryz.isAgg181
 z28:=Tryz.sizeOf181
 v28:=Tryz.zeroValue181
 i26:=by kernel_rfl }
def sortA_ren:Go.Shelf.Ren:=⟨fun | 5=>127 | 8=>149 | 7=>148 | 19=>174 | 20=>175 | 10=>165 | 11=>166 | 12=>167 | 13=>168 | 14=>169 | 15=>170 | 16=>171 | 17=>172 | 18=>173 | 30=>188 | 31=>189 | 32=>190 | 33=>191 | 34=>192 | 35=>193 | 40=>200 | n=>n,fun | 23=>37 | 25=>3 | 3=>3 | 32=>199 | 22=>37 | 0=>0 | 44=>249 | 46=>251 | 4=>4 | 36=>242 | 35=>241 | 41=>202 | 5=>5 | 9=>9 | 53=>259 | 57=>263 | 63=>270 | 64=>142 | n=>n,fun | n=>n⟩
theorem sortA:Go.Proofs.SlLaysM.n5 Tryz.prog sortA_ren:={
 mixed:=by kernel_rfl
 f5:=⟨Tryz.f127.name,by decide,Tryz.func127.trans (congrArg some (by kernel_rfl))⟩
 f7:=⟨Tryz.f148.name,by decide,Tryz.func148.trans (congrArg some (by kernel_rfl))⟩
 f8:=Tryz.func149.trans (congrArg some (by kernel_rfl))
 f10:=⟨Tryz.f165.name,by decide,Tryz.func165.trans (congrArg some (by kernel_rfl))⟩
 f11:=⟨Tryz.f166.name,by decide,Tryz.func166.trans (congrArg some (by kernel_rfl))⟩
 f12:=⟨Tryz.f167.name,by decide,Tryz.func167.trans (congrArg some (by kernel_rfl))⟩
 f13:=⟨Tryz.f168.name,by decide,Tryz.func168.trans (congrArg some (by kernel_rfl))⟩
 f14:=⟨Tryz.f169.name,by decide,Tryz.func169.trans (congrArg some (by kernel_rfl))⟩
 f15:=⟨Tryz.f170.name,by decide,Tryz.func170.trans (congrArg some (by kernel_rfl))⟩
 f16:=⟨Tryz.f171.name,by decide,Tryz.func171.trans (congrArg some (by kernel_rfl))⟩
 f17:=⟨Tryz.f172.name,by decide,Tryz.func172.trans (congrArg some (by kernel_rfl))⟩
 f18:=⟨Tryz.f173.name,by decide,Tryz.func173.trans (congrArg some (by kernel_rfl))⟩
 f19:=Tryz.func174.trans (congrArg some (by kernel_rfl))
 f20:=Tryz.func175.trans (congrArg some (by kernel_rfl))
 f30:=⟨Tryz.f188.name,by decide,Tryz.func188.trans (congrArg some (by kernel_rfl))⟩
 f31:=Tryz.func189.trans (congrArg some (by kernel_rfl))
 f32:=Tryz.func190.trans (congrArg some (by kernel_rfl))
 f33:=⟨Tryz.f191.name,by decide,Tryz.func191.trans (congrArg some (by kernel_rfl))⟩
 f34:=⟨Tryz.f192.name,by decide,Tryz.func192.trans (congrArg some (by kernel_rfl))⟩
 f35:=⟨Tryz.f193.name,by decide,Tryz.func193.trans (congrArg some (by kernel_rfl))⟩
 f40:=⟨Tryz.f200.name,by decide,Tryz.func200.trans (congrArg some (by kernel_rfl))⟩
 t0:=Tryz.underlying0
 a0:=Tryz.isAgg0
 z0:=Tryz.sizeOf0
 v0:=Tryz.zeroValue0
 t3:=Tryz.underlying3
 a3:=Tryz.isAgg3
 z3:=Tryz.sizeOf3
 v3:=Tryz.zeroValue3
 t4:=Tryz.underlying4
 a4:=Tryz.isAgg4
 z4:=Tryz.sizeOf4
 v4:=Tryz.zeroValue4
 t5:=Tryz.underlying5
 a5:=Tryz.isAgg5
 z5:=Tryz.sizeOf5
 v5:=Tryz.zeroValue5
 t9:=Tryz.underlying9
 a9:=Tryz.isAgg9
 z9:=Tryz.sizeOf9
 v9:=Tryz.zeroValue9
 t22:=Tryz.underlying37
 a22:=Tryz.isAgg37
 z22:=Tryz.sizeOf37
 v22:=Tryz.zeroValue37
 t23:=Tryz.underlying37
 a23:=Tryz.isAgg37
 z23:=Tryz.sizeOf37
 v23:=Tryz.zeroValue37
 t25:=Tryz.underlying3
 a25:=Tryz.isAgg3
 z25:=Tryz.sizeOf3
 v25:=Tryz.zeroValue3
 t32:=Tryz.underlying199
 a32:=Tryz.isAgg199
 z32:=Tryz.sizeOf199
 v32:=Tryz.zeroValue199
 t35:=Tryz.underlying241
 a35:=Tryz.isAgg241
 z35:=Tryz.sizeOf241
 v35:=Tryz.zeroValue241
 t36:=Tryz.underlying242
 a36:=Tryz.isAgg242
 z36:=Tryz.sizeOf242
 v36:=Tryz.zeroValue242
 t41:=Tryz.underlying202
 a41:=Tryz.isAgg202
 z41:=Tryz.sizeOf202
 v41:=Tryz.zeroValue202
 t44:=Tryz.underlying249
 a44:=Tryz.isAgg249
 z44:=Tryz.sizeOf249
 v44:=Tryz.zeroValue249
 t46:=Tryz.underlying251
 a46:=Tryz.isAgg251
 z46:=Tryz.sizeOf251
 v46:=Tryz.zeroValue251
 t53:=Tryz.underlying259
 a53:=Tryz.isAgg259
 z53:=Tryz.sizeOf259
 v53:=Tryz.zeroValue259
 t57:=Tryz.underlying263
 a57:=Tryz.isAgg263
 z57:=Tryz.sizeOf263
 v57:=Tryz.zeroValue263
 t63:=Tryz.underlying270
 a63:=Tryz.isAgg270
 z63:=Tryz.sizeOf270
 v63:=Tryz.zeroValue270
 t64:=Tryz.underlying142
 a64:=Tryz.isAgg142
 z64:=Tryz.sizeOf142
 v64:=Tryz.zeroValue142 }
theorem sortsA(m:Nat):AnyZI.SortsIn Tryz.prog sortedA_ren Fence.wide m :=
 ⟨fun blk off cap ss W hH hblk hsz=>callsIn_wide.2 (AnyM.slices_Sort_int sortA blk off cap ss W hH hblk hsz),
 fun p cap W=>callsIn_wide.2 (AnyM.slices_Sort_int_none sortA p cap W)⟩
theorem keys_any(mb:Option Nat)(w:World):Calls Tryz.prog 163 #[.map mb] w fun e w'=>e=.returned (.func (.func 187) #[] #[.pointer (some ⟨w.heap.size,0,none⟩)])/\w'=w.alloc (.cells #[.map mb] 163) :=
 (callsIn_wide (n:=6)).1 (AnyZI.keys_in keysA Fence.wide 6 trivial rfl mb w)
theorem sorted_any(b nn:Nat)(D0:DataW H)(R:Value->Option (DataW H×List MemPlace))(w:World)(hown:w.ownsMap Tryz.prog 3 R b nn D0)(hmax:Maps.size D0<=maxLen)(hbytes:Maps.size D0 * 8<=140737488355328) :
  Calls Tryz.prog 99 #[.func (.func 187) #[] #[.pointer (some ⟨w.heap.size,0,none⟩)]] (w.alloc (.cells #[.map (some b)] 163)) fun e w'=>∃(v:Value) (ss:List Int),e=.returned v/\ss.Perm (intKeys D0) /\
   w'.ownsRow w.heap.size 3 1 v ss.length ((ss.mergeSort (fun x y=>decide (x<=y))).map encZ)/\(v=.slice none 0 0 ↔ ss=[])/\Below w.heap.size w w':=by
 have hbl:=hown.lt
 have hseq:SeqGives Fence.wide 2 Tryz.prog 187 #[.pointer (some ⟨w.heap.size,0,none⟩)] encZ (fun ss=>ss.Perm (intKeys D0)) (Maps.size D0) (w.alloc (.cells #[.map (some b)] 163)) :=
  AnyZI.keys_gives (ρ:=keysA_ren) { keysA with } Fence.wide _ trivial rfl (by omega) w.heap.size b nn D0 _ (by simp) (by simp) (by
   obtain⟨es,clock,hb,Ft,hs,hD⟩:=hown
   exact⟨es,clock,(Below.heap_alloc _ _ b hbl).trans hb,Ft,hs,hD⟩)
 have cS:=AnyZI.sorted_in sortedA Fence.wide 5 trivial trivial trivial trivial rfl (by omega) (sortsA _) (enters_of Tryz.func127 (by kernel_rfl) rfl) 187 #[.pointer (some ⟨w.heap.size,0,none⟩)] trivial (enters_of Tryz.func187 (by kernel_rfl) rfl) _ _ hmax hbytes _ hseq
 change CallsIn _ _ Tryz.prog 99 _ _ _ at cS
 refine Calls.mono ((callsIn_wide).1 cS) ?_
 rintro e w' ⟨v,ss,rfl,hS,hrow,hnil,hb⟩
 exact⟨v,ss,rfl,hS,ownsRow_base_a hrow (by simp),hnil,((Below.refl _ w).alloc (Nat.le_refl _) _).trans (hb.mono (by simp))⟩
end Go.Proofs.YthfojpcibnfmgaaGreat
