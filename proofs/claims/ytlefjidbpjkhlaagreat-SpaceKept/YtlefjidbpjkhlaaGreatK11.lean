import Derived.Test.YtlefjidbpjkhlaaGreatK10
import Derived.Test.YtlefjidbpjkhlaaGreatK00
import Derived.Deep.RegionHeld3
import Derived.Shelf.SlIterI.Nil
import Derived.Shelf.SortM.Plain
import Derived.Shelf.SortM.SortNone
set_option maxRecDepth 100000
set_option maxHeartbeats 16000000
namespace Go.Proofs.YtlefjidbpjkhlaaGreat
variable {Z Z0:Nat->Prop}
variable {w w' w0 w1:World}
variable {K bl c f j k p:Nat}
variable {d:Pd}
variable {s s' sE:Js}
variable {H α:Type}
variable {P:Program}
variable {ops:Array Oper}
variable {Q:Exit->Act->World->Prop}
variable {md:Region.Mode}
variable {S:World->Prop}
variable {v:Value}
variable {po:String}
variable {af:Array Edge}
open Go.RowKit
def Did (Z:Nat->Prop) (w:World) (j c p room nb K fr bl:Nat) (d:Pd) (cs:List Cmd) (sE:Js) (e:Ending) (w':World):Prop :=
 e=.returned (.int .i64 (d.runs cs).1)/\(∃Z' s',Jq Z' w' j c p room nb K fr bl (d.runs cs).2 s'/\((d.runs cs).1=0->s'=sE)/\Gr Z Z' w)/\But Z w w'
theorem Did.of_one{room nb fr:Nat}{x:Cmd}{args:Array Value}(H:Calls Tryz.prog f args w fun e w'=>e=.returned (.int .i64 (d.run1 x).1)/\(∃Z',Jq Z' w' j c p room nb K fr bl (d.run1 x).2 sE/\Gr Z Z' w)/\But Z w w'):Calls Tryz.prog f args w (Did Z w j c p room nb K fr bl d [x] sE):=by
 refine Calls.mono H ?_
 rintro e w' ⟨rfl,⟨Z',h1,h2⟩,b⟩
 unfold Did
 rw[Pd.runs_one]
 exact⟨rfl,⟨Z',sE,h1,fun _=>rfl,h2⟩,b⟩
theorem Did.of_list{room nb fr:Nat}{cs:List Cmd}{args:Array Value}(H:Calls Tryz.prog f args w fun e w'=>e=.returned (.int .i64 (d.runs cs).1)/\(∃Z',Jq Z' w' j c p room nb K fr bl (d.runs cs).2 sE/\Gr Z Z' w)/\But Z w w'):Calls Tryz.prog f args w (Did Z w j c p room nb K fr bl d cs sE):=by
 refine Calls.mono H ?_
 rintro e w' ⟨rfl,⟨Z',h1,h2⟩,b⟩
 exact⟨rfl,⟨Z',sE,h1,fun _=>rfl,h2⟩,b⟩
theorem Did.from{room nb fr:Nat}{cs:List Cmd}{e:Ending}(h:Did Z w j c p room nb K fr bl d cs sE e w')(hg:Gr Z0 Z w0)(hb:But Z0 w0 w):Did Z0 w0 j c p room nb K fr bl d cs sE e w':=by
 obtain⟨h1,⟨Z',s',h2,h3,h4⟩,h5⟩:=h
 exact⟨h1,⟨Z',s',h2,h3,hg.trans h4 hb.size⟩,hb.comp h5 (fun k hk q=>hg k hk q)⟩
theorem Turn.jstep {room nb fr:Nat} {r:Value} {fs:List (Nat×Value)} {all done cs rest:List Cmd} (hall:all=done++cs++rest) (hz:(d.runs done).1=0) (hG:Gr Z0 Z w0) (hB:But Z0 w0 w) (hk:¬Z k) (hkl:k<w.heap.size)
  (H:Calls Tryz.prog f #[r] w (Did Z w j c p room nb K fr bl (d.runs done).2 cs s'))
  (next:∀Z' w',(d.runs (done++cs)).1=0->Jq Z' w' j c p room nb K fr bl (d.runs (done++cs)).2 s'->Gr Z0 Z' w0->But Z0 w0 w'->¬Z' k->k<w'.heap.size->Turn k (Did Z0 w0 j c p room nb K fr bl d all sE) fs w') :
  Turn k (Did Z0 w0 j c p room nb K fr bl d all sE) ((f,r) :: fs) w:=by
 have e1:d.runs (done++cs)=(d.runs done).2.runs cs:=by rw[Pd.runs_append,if_pos hz]
 refine Calls.mono H ?_
 rintro e w' ⟨rfl,⟨Z',s1,h2,h3,h4⟩,h5⟩
 refine⟨((d.runs done).2.runs cs).1,rfl,fun hc=>?_,fun hc=>⟨h5.block k hkl hk,?_⟩⟩
 ·have e2:d.runs all=(d.runs done).2.runs cs:=by rw[hall,Pd.runs_stop (by rw[e1];exact hc),e1]
  unfold Did
  rw[e2]
  exact⟨rfl,⟨Z',s1,h2,fun q=>absurd q hc,hG.trans h4 hB.size⟩,hB.comp h5 (fun k hk q=>hG k hk q)⟩
 ·rw[<- e1]at hc h2
  rw[<- e1]at h3
  rw[h3 hc]at h2
  exact next Z' w' hc h2 (hG.trans h4 hB.size) (hB.comp h5 (fun k hk q=>hG k hk q)) (fun q=>hk (h4 k hkl q)) (Nat.lt_of_lt_of_le hkl h5.size)
theorem Turn.jend{room nb fr:Nat}{all:List Cmd}(hz:(d.runs all).1=0)(hJ:Jq Z w j c p room nb K fr bl (d.runs all).2 sE)(hG:Gr Z0 Z w0)(hB:But Z0 w0 w):Turn k (Did Z0 w0 j c p room nb K fr bl d all sE) [] w:=by
 show Did _ _ _ _ _ _ _ _ _ _ _ _ _ _ _
 exact⟨by rw[hz],⟨Z,sE,hJ,fun _=>rfl,hG⟩,hB⟩
theorem steps_ready(w:World)(vs:Array Value)(fs:List (Nat×Value))(h:∀(i:Nat) (f:Nat×Value),fs[i]?=some f->vs[i]?=some (Value.func (Fn.func f.1) #[f.2] #[]))(e:w1=(w.alloc (.cells vs 42)).drew):Below w.heap.size w w1/\w1.heap.size=w.heap.size+1/\∀(i:Nat) (f:Nat×Value),fs[i]?=some f->w1.cell? ⟨w.heap.size,i,none⟩=some (.func (.func f.1) #[f.2] #[]):=by
 subst e
 exact⟨((Below.refl _ _).alloc (Nat.le_refl _) _).drew,by simp,fun i f hf=>cell_new rfl i _ (h i f hf)⟩
def goCmds (fr bl:Nat) (s:Js):List Cmd:=if s.life≠0/\s.life<1099511627776 then [.wr fr (headZ fr bl (s.life+1) s.seq)] else [.wr fr (headZ fr bl 0 s.seq)]++[.fl]++wipes fr bl (fr+1) (bl-1)++[.fl]++[.wr fr (headZ fr bl 1 s.seq)]
def goS (s:Js):Js:=if s.life≠0/\s.life<1099511627776 then beginS s else ⟨1,s.seq,0,fun _=>none⟩
theorem go_turn{room nb fr:Nat}(h:Jq Z w1 j c p room nb K fr bl d s)(hb:Below w.heap.size w w1)(hk:k<w1.heap.size)(hkZ:¬Z k)(hn:Jn nb fr bl s)(hl:d.puts.length+bl+4<=1073741823) :
  Turn k (Did Z w j c p room nb K fr bl d ([.wr fr (headZ fr bl 0 s.seq)]++[.fl]++wipes fr bl (fr+1) (bl-1)++[.fl]++[.wr fr (headZ fr bl 1 s.seq)]) ⟨1,s.seq,0,fun _=>none⟩) [(204,.pointer (some ⟨j,0,none⟩)),(121,.pointer (some ⟨c,0,none⟩)),(122,.pointer (some ⟨j,0,none⟩)),(121,.pointer (some ⟨c,0,none⟩)),(123,.pointer (some ⟨j,0,none⟩))] w1:=by
 have hn1:Jn nb fr bl (endS s):=⟨hn.lo,hn.fit,hn.nb,Nat.zero_le _,hn.seq,hn.used⟩
 have hp:=fun cs=>d.runs_puts cs
 refine Turn.jstep (done:=[]) (cs:=[.wr fr (headZ fr bl 0 s.seq)]) (rest:=[.fl]++wipes fr bl (fr+1) (bl-1)++[.fl]++[.wr fr (headZ fr bl 1 s.seq)]) (by simp) rfl (Gr.refl _ _) (But.of_below hb) hkZ hk (Did.of_one (endLives_any h hn (by simp[Pd.runs];omega))) (fun Z1 w1 z1 h1 g1 b1 k1 l1=>?_)
 have p1:=hp ([]++[.wr fr (headZ fr bl 0 s.seq)])
 simp at p1
 refine Turn.jstep (done:=[]++[.wr fr (headZ fr bl 0 s.seq)]) (cs:=[.fl]) (rest:=wipes fr bl (fr+1) (bl-1)++[.fl]++[.wr fr (headZ fr bl 1 s.seq)]) (by simp) z1 g1 b1 k1 l1 (Did.of_one (h1.flush (by simp;omega))) (fun Z2 w2 z2 h2 g2 b2 k2 l2=>?_)
 have p2:=hp ([]++[.wr fr (headZ fr bl 0 s.seq)]++[.fl])
 simp at p2
 refine Turn.jstep (done:=[]++[.wr fr (headZ fr bl 0 s.seq)]++[.fl]) (cs:=wipes fr bl (fr+1) (bl-1)) (rest:=[.fl]++[.wr fr (headZ fr bl 1 s.seq)]) (by simp) z2 g2 b2 k2 l2 (Did.of_list (wipeLog_any h2 hn1 (by simp;omega))) (fun Z3 w3 z3 h3 g3 b3 k3 l3=>?_)
 have p3:=hp ([]++[.wr fr (headZ fr bl 0 s.seq)]++[.fl]++wipes fr bl (fr+1) (bl-1))
 simp[length_wipes]at p3
 refine Turn.jstep (done:=[]++[.wr fr (headZ fr bl 0 s.seq)]++[.fl]++wipes fr bl (fr+1) (bl-1)) (cs:=[.fl]) (rest:=[.wr fr (headZ fr bl 1 s.seq)]) (by simp) z3 g3 b3 k3 l3 (Did.of_one (h3.flush (by simp;omega))) (fun Z4 w4 z4 h4 g4 b4 k4 l4=>?_)
 have p4:=hp ([]++[.wr fr (headZ fr bl 0 s.seq)]++[.fl]++wipes fr bl (fr+1) (bl-1)++[.fl])
 simp[length_wipes]at p4
 refine Turn.jstep (done:=[]++[.wr fr (headZ fr bl 0 s.seq)]++[.fl]++wipes fr bl (fr+1) (bl-1)++[.fl]) (cs:=[.wr fr (headZ fr bl 1 s.seq)]) (rest:=[]) (by simp) z4 g4 b4 k4 l4 (Did.of_one (beginLife_any h4 hn1 (by simp[endS]) (by simp;omega))) (fun Z5 w5 z5 h5 g5 b5 k5 l5=>?_)
 exact Turn.jend (by simpa using z5) (by simpa [beginS,endS] using h5) g5 b5
open Go.RowKit
theorem zA(l:List α)(i:Nat)(a:α):l.toArray.setIfInBounds i a=(l.set i a).toArray:=by simp only[List.setIfInBounds_toArray]
theorem zB(l:List α)(a b:α):(a :: l).set 0 b=b :: l:=rfl
theorem zC(l:List α)(n:Nat)(a b:α):(a :: l).set (n+1) b=a :: l.set n b:=rfl
theorem tj {oi:Oper} {fuel:Nat} {listed:Array Bool} {a:Act} (i:Nat) (hi:ops[i]?=some oi) (hS:S w)
  (h:wpAnyH P md ops Q S fuel (listed.setIfInBounds i true) (a.put oi.dst v) w)
  (hk:(Region.noSelect ops && (Region.free md ops listed i && (Region.ready md ops listed).contains i))=true:=by kernel_rfl) (hQ:∀c a w,Q (.panic c) (a.put oi.dst v) w->Q (.panic c) a w:=by exact fun _ _ _ h=>h) (hw:Region.wanted oi (yielded ops a.tmps)=true:=by rfl) (hy:∀w,S w->(execOp a.eval oi).run P w=.ok (.value v) w:=by (intro a h;(try dsimp only at h);(try go_split_ands);go_simp;try with_reducible rfl)):wpAnyH P md ops Q S (fuel+1) listed a w:=by
 simp only[Bool.and_eq_true]at hk
 exact wpAnyH_take hi hk.1 hk.2.1 hk.2.2 hQ (Or.inl ⟨hw,hy⟩) hS h
theorem Ti {fuel:Nat} {listed:Array Bool} {a:Act} {d:Option Tmp} {o:Op} {t:TypeId} {g:Option (Nat×Bool)} (i:Nat) (hi:ops[i]?=some ⟨d,o,t,po,af,g⟩)
  (h:wpAnyH P md ops Q S fuel (listed.setIfInBounds i true) (a.put d v) w)
  (hS:S w:=by assumption) (hk:(Region.noSelect ops && (Region.free md ops listed i && (Region.ready md ops listed).contains i))=true:=by kernel_rfl) (hQ:∀c a w,Q (.panic c) (a.put d v) w->Q (.panic c) a w:=by exact fun _ _ _ h=>h) (hw:Region.wanted ⟨d,o,t,po,af,g⟩ (yielded ops a.tmps)=true:=by rfl) (hy:∀w,S w->(execOp a.eval ⟨d,o,t,po,af,g⟩).run P w=.ok (.value v) w:=by (intro a h;(try dsimp only at h);(try go_split_ands);go_simp;try with_reducible rfl)):wpAnyH P md ops Q S (fuel+1) listed a w:=by
 simp only[Bool.and_eq_true]at hk
 exact wpAnyH_take hi hk.1 hk.2.1 hk.2.2 hQ (Or.inl ⟨hw,hy⟩) hS h
theorem Si {fuel:Nat} {listed:Array Bool} {a:Act} {d:Option Tmp} {o:Op} {t:TypeId} {g:Option (Nat×Bool)} (i:Nat) (hi:ops[i]?=some ⟨d,o,t,po,af,g⟩)
  (h:wpAnyH P md ops Q S fuel (listed.setIfInBounds i true) (a.put d undef) w)
  (hS:S w:=by assumption) (hk:(Region.noSelect ops && (Region.free md ops listed i && (Region.ready md ops listed).contains i))=true:=by kernel_rfl) (hQ:∀c a w,Q (.panic c) (a.put d undef) w->Q (.panic c) a w:=by exact fun _ _ _ h=>h) (hw:Region.wanted ⟨d,o,t,po,af,g⟩ (yielded ops a.tmps)=false:=by rfl):wpAnyH P md ops Q S (fuel+1) listed a w:=by
 simp only[Bool.and_eq_true]at hk
 exact wpAnyH_take hi hk.1 hk.2.1 hk.2.2 hQ (Or.inr ⟨hw,rfl⟩) hS h
theorem Ri {fuel:Nat} {listed:Array Bool} {a:Act} {d:Option Tmp} {o:Op} {t:TypeId} {g:Option (Nat×Bool)} (i:Nat) (ho:ops[i]?=some ⟨d,o,t,po,af,g⟩)
  (h:∀K':Act->World->Prop,Shut (∀a w,S w->(S w->wpAnyH P md ops Q S fuel (listed.setIfInBounds i true) a w)->K' a w)->if Region.wanted ⟨d,o,t,po,af,g⟩ (yielded ops a.tmps)=true then Oper.wp P ⟨d,o,t,po,af,g⟩ a w K' Q else K' (a.put d undef) w) (hr:Region.ready md ops listed=[i]:=by kernel_rfl):wpAnyH P md ops Q S (fuel+1) listed a w:=wpAnyH_ready hr (by simp) (AllReadyH.cons ho h AllReadyH.nil)
theorem Rr{p2:String}{f2:Array Edge}{fuel:Nat}{listed:Array Bool}{a:Act}{d d2:Option Tmp}{o o2:Op}{t t2:TypeId}{g g2:Option (Nat×Bool)}(i k:Nat)(ho:ops[i]?=some ⟨d,o,t,po,af,g⟩)(hp:ops[k]?=some ⟨d2,o2,t2,p2,f2,g2⟩)(h:∀K':Act->World->Prop,Shut (∀a w,S w->(S w->wpAnyH P md ops Q S fuel (listed.setIfInBounds i true) a w)->K' a w)->if Region.wanted ⟨d,o,t,po,af,g⟩ (yielded ops a.tmps)=true then Oper.wp P ⟨d,o,t,po,af,g⟩ a w K' Q else K' (a.put d undef) w)(h2:∀K':Act->World->Prop,Shut (∀a w,S w->(S w->wpAnyH P md ops Q S fuel (listed.setIfInBounds k true) a w)->K' a w)->if Region.wanted ⟨d2,o2,t2,p2,f2,g2⟩ (yielded ops a.tmps)=true then Oper.wp P ⟨d2,o2,t2,p2,f2,g2⟩ a w K' Q else K' (a.put d2 undef) w)(hr:Region.ready md ops listed=[i,k]:=by kernel_rfl):wpAnyH P md ops Q S (fuel+1) listed a w:=wpAnyH_ready hr (by simp) (AllReadyH.cons ho h (AllReadyH.cons hp h2 AllReadyH.nil))
theorem Gz{id:Nat}{a:Act}(hS:S w.drew)(h:S w.drew->wpAnyH P .any ops Q S ops.size (Array.replicate ops.size false) a w.drew)(hm:P.follows .mixedOrders=true:=by kernel_rfl):(Code.region id ops true).wp P Q a w:=wp_region_held_drew hm hS h
theorem Dn{fuel:Nat}{listed:Array Bool}{a:Act}(h:Q .normal a w)(hr:Region.ready md ops listed=[]:=by kernel_rfl):wpAnyH P md ops Q S fuel listed a w:=wpAnyH_done hr h _
open Go.RowKit
theorem Did.c0{room nb fr:Nat}{cs:List Cmd}{e:Ending}(h:Did Z w j c p room nb K fr bl d cs sE e w'):w'.cell? ⟨j,0,none⟩=some (.pointer (some ⟨c,0,none⟩)):=by
 obtain⟨_,⟨Z',s',h2,_⟩,_⟩:=h
 obtain⟨mv,hJ,_⟩:=h2.cells
 exact hJ.cell 0
theorem five_in(a b:Nat)(i:Nat)(g:Nat×Value)(hg:[((204:Nat),Value.pointer (some ⟨a,0,none⟩)),(121,.pointer (some ⟨b,0,none⟩)),(122,.pointer (some ⟨a,0,none⟩)),(121,.pointer (some ⟨b,0,none⟩)),(123,.pointer (some ⟨a,0,none⟩))][i]?=some g):g.1=124\/g.1=125\/g.1=126\/g.1=127\/g.1=120\/g.1=121\/g.1=122\/g.1=123\/g.1=76\/g.1=162\/g.1=171\/g.1=172\/g.1=204:=by
 have:=List.mem_of_getElem? hg
 simp at this
 rcases this with rfl | rfl | rfl | rfl | rfl <;> simp
theorem letLogGo_any{room nb fr:Nat}(h:Jq Z w j c p room nb K fr bl d s)(hn:Jn nb fr bl s)(hl:d.puts.length+bl+4<=1073741823) :
  Calls Tryz.prog 172 #[.pointer (some ⟨j,0,none⟩)] w (Did Z w j c p room nb K fr bl d (goCmds fr bl s) (goS s)):=by
 obtain⟨mv,hJ,hZj⟩:=h.cells
 have hjl:=hJ.lt
 have j3:=hJ.cell 3
 have j0:=hJ.cell 0
 simp at j3 j0
 by_cases hc:s.life≠0/\s.life<1099511627776
 ·have e1:goCmds fr bl s=[.wr fr (headZ fr bl (s.life+1) s.seq)]:=if_pos hc
  have e2:goS s=beginS s:=if_pos hc
  rw[e1,e2]
  have HW:=hid (Did.of_one (beginLife_any h hn hc.2 (by omega)))
  have c1:¬(s.life:Int)=0:=by omega
  have c2:(s.life:Int)<1099511627776:=by omega
  clear hJ h hn hl hc e1 e2 j0
  generalize (s.life:Int)=lf at j3 c1 c2
  go_enter Tryz.func172,Tryz.ntmps172
  go_wp2_with fail
  refine Calls.mono HW.out ?_
  intro e w2 q
  have FIN:=hid q
  obtain⟨he,_⟩:=q
  subst he
  clear HW j3
  go_wp2
  go_ret
  exact FIN.out
 ·have e1:goCmds fr bl s=[.wr fr (headZ fr bl 0 s.seq)]++[.fl]++wipes fr bl (fr+1) (bl-1)++[.fl]++[.wr fr (headZ fr bl 1 s.seq)]:=if_neg hc
  have e2:goS s=⟨1,s.seq,0,fun _=>none⟩:=if_neg hc
  rw[e1,e2]
  clear e1 e2
  obtain⟨w1,hw1⟩:∃w1,w1=(w.alloc (.cells #[.func (.func 204) #[.pointer (some ⟨j,0,none⟩)] #[],.func (.func 121) #[.pointer (some ⟨c,0,none⟩)] #[],.func (.func 122) #[.pointer (some ⟨j,0,none⟩)] #[],.func (.func 121) #[.pointer (some ⟨c,0,none⟩)] #[],.func (.func 123) #[.pointer (some ⟨j,0,none⟩)] #[]] 42)).drew:=⟨_,rfl⟩
  obtain⟨b1,z1,F1⟩:=steps_ready w _ [((204:Nat),Value.pointer (some ⟨j,0,none⟩)),(121,.pointer (some ⟨c,0,none⟩)),(122,.pointer (some ⟨j,0,none⟩)),(121,.pointer (some ⟨c,0,none⟩)),(123,.pointer (some ⟨j,0,none⟩))] (fun i f hf=>by
   rcases i with _ | _ | _ | _ | _ | i
   ·cases hf;rfl
   ·cases hf;rfl
   ·cases hf;rfl
   ·cases hf;rfl
   ·cases hf;rfl
   ·simp at hf) hw1
  have HT:=go_turn (w:=w) (k:=w.heap.size) (h.cut.below b1) b1 (by omega) (fun q=>by have:=q.2;omega) hn hl
  have HI:=hid (inTurn_any (k:=w.heap.size) _ (by simp) (five_in j c) w1 F1 HT)
  have c1:(s.life:Int)=0\/¬(s.life:Int)<1099511627776:=by omega
  clear HT
  generalize [Cmd.wr fr (headZ fr bl 0 s.seq)]++[.fl]++wipes fr bl (fr+1) (bl-1)++[.fl]++[.wr fr (headZ fr bl 1 s.seq)]=cs at HI ⊢
  clear hJ h hn hl hc F1 z1 b1
  generalize (s.life:Int)=lf at j3 c1
  have HW1:=hid hw1
  clear hw1
  go_enter Tryz.func172,Tryz.ntmps172
  rcases c1 with c1 | c1
  ·rw[c1]at j3
   go_wp2_with fail
   clear c1 j3
   refine wp_region_noPanic ?_
   refine Gz (S:=fun w'=>w'.cell? ⟨j,0,none⟩=some (.pointer (some ⟨c,0,none⟩))) j0 (fun hSS=>?_)
   refine tj 0 rfl hSS ?_
   simp only[Act.put,List.setIfInBounds_toArray]
   refine tj 1 rfl hSS ?_
   simp only[Act.put]
   refine tj 2 rfl hSS ?_
   simp only[Act.put]
   refine tj 3 rfl hSS ?_
   simp only[Act.put]
   refine tj 4 rfl hSS ?_
   simp only[Act.put]
   refine tj 5 rfl hSS ?_
   simp only[Act.put]
   refine tj 6 rfl hSS ?_
   simp only[Act.put]
   refine tj 7 rfl hSS ?_
   simp only[Act.put]
   refine tj 8 rfl hSS ?_
   simp only[Act.put]
   refine tj 9 rfl hSS ?_
   simp only[Act.put]
   refine tj 10 rfl hSS ?_
   simp only[Act.put]
   refine tj 11 rfl hSS ?_
   simp only[Act.put]
   refine tj 12 rfl hSS ?_
   simp only[Act.put]
   refine tj 13 rfl hSS ?_
   simp only[Act.put]
   refine tj 14 rfl hSS ?_
   simp only[Act.put]
   refine tj 15 rfl hSS ?_
   simp only[Act.put]
   refine Ri 16 rfl (fun K9 hK9=>?_)
   go_simp
   refine hK9.out _ _ ((World.cell?_alloc_past _ _ _ hjl).trans j0) (fun hSS2=>?_)
   clear hK9 K9 hSS
   refine Ri 17 rfl (fun K9 hK9=>?_)
   go_simp
   go_at_call 119
   rw[<- HW1.out]
   refine Calls.mono HI.out ?_
   intro e w2 q
   have FIN:=hid q
   have q0:=q.c0
   obtain⟨he,_⟩:=q
   subst he
   dsimp only
   refine hK9.out _ _ q0 (fun hSS3=>?_)
   clear hK9 K9 hSS2
   refine tj 18 rfl hSS3 ?_
   dsimp [Act.put]
   refine Dn (NoPanic.normal ?_)
   clear j0 HI HW1 q0 hSS3
   go_wp2
   go_ret
   exact FIN.out.from (fun k _ q=>q.1) (But.refl _ _)
  ·by_cases c0:lf=0
   ·omega
   ·go_wp2_with fail
    clear c1 c0 j3
    refine wp_region_noPanic ?_
    refine Gz (S:=fun w'=>w'.cell? ⟨j,0,none⟩=some (.pointer (some ⟨c,0,none⟩))) j0 (fun hSS=>?_)
    refine tj 0 rfl hSS ?_
    simp only[Act.put,List.setIfInBounds_toArray]
    refine tj 1 rfl hSS ?_
    simp only[Act.put]
    refine tj 2 rfl hSS ?_
    simp only[Act.put]
    refine tj 3 rfl hSS ?_
    simp only[Act.put]
    refine tj 4 rfl hSS ?_
    simp only[Act.put]
    refine tj 5 rfl hSS ?_
    simp only[Act.put]
    refine tj 6 rfl hSS ?_
    simp only[Act.put]
    refine tj 7 rfl hSS ?_
    simp only[Act.put]
    refine tj 8 rfl hSS ?_
    simp only[Act.put]
    refine tj 9 rfl hSS ?_
    simp only[Act.put]
    refine tj 10 rfl hSS ?_
    simp only[Act.put]
    refine tj 11 rfl hSS ?_
    simp only[Act.put]
    refine tj 12 rfl hSS ?_
    simp only[Act.put]
    refine tj 13 rfl hSS ?_
    simp only[Act.put]
    refine tj 14 rfl hSS ?_
    simp only[Act.put]
    refine tj 15 rfl hSS ?_
    simp only[Act.put]
    refine Ri 16 rfl (fun K9 hK9=>?_)
    go_simp
    refine hK9.out _ _ ((World.cell?_alloc_past _ _ _ hjl).trans j0) (fun hSS2=>?_)
    clear hK9 K9 hSS
    refine Ri 17 rfl (fun K9 hK9=>?_)
    go_simp
    go_at_call 119
    rw[<- HW1.out]
    refine Calls.mono HI.out ?_
    intro e w2 q
    have FIN:=hid q
    have q0:=q.c0
    obtain⟨he,_⟩:=q
    subst he
    dsimp only
    refine hK9.out _ _ q0 (fun hSS3=>?_)
    clear hK9 K9 hSS2
    refine tj 18 rfl hSS3 ?_
    dsimp [Act.put]
    refine Dn (NoPanic.normal ?_)
    clear j0 HI HW1 q0 hSS3
    go_wp2
    go_ret
    exact FIN.out.from (fun k _ q=>q.1) (But.refl _ _)
open Go.RowKit Go.Maps Go.Sort Go.Shelf
def keysA_ren:Go.Shelf.Ren:=⟨fun | 7=>203 | 10=>227 | n=>n,fun | 23=>149 | 26=>3 | 3=>65 | 28=>139 | 0=>0 | 27=>138 | 33=>90 | 4=>4 | n=>n,fun | n=>n⟩
theorem keysA:Go.Proofs.SlLaysZI.n7 Tryz.prog keysA_ren:={
 mixed:=by kernel_rfl
 f7:=⟨Tryz.f203.name,by decide,Tryz.func203.trans (congrArg some (by kernel_rfl))⟩
 f10:=⟨Tryz.f227.name,by decide,Tryz.func227.trans (congrArg some (by kernel_rfl))⟩
 t0:=Tryz.underlying0
 a0:=Tryz.isAgg0
 z0:=Tryz.sizeOf0
 v0:=Tryz.zeroValue0
 t4:=Tryz.underlying4
 a4:=Tryz.isAgg4
 z4:=Tryz.sizeOf4
 v4:=Tryz.zeroValue4
 t23:=Tryz.underlying149
 a23:=Tryz.isAgg149
 z23:=Tryz.sizeOf149
 v23:=Tryz.zeroValue149
 t26:=Tryz.underlying3
 a26:=Tryz.isAgg3
 z26:=Tryz.sizeOf3
 v26:=Tryz.zeroValue3
 t27:=Tryz.underlying138
 a27:=Tryz.isAgg138
 z27:=Tryz.sizeOf138
 v27:=Tryz.zeroValue138
 t28:=Tryz.underlying139
 a28:=Tryz.isAgg139
 z28:=Tryz.sizeOf139
 v28:=Tryz.zeroValue139
 t33:=Tryz.underlying90
 a33:=Tryz.isAgg90
 z33:=Tryz.sizeOf90
 v33:=Tryz.zeroValue90 }
def sortedA_ren:Go.Shelf.Ren:=⟨fun | 6=>74 | 8=>130 | 9=>131 | 11=>173 | 13=>175 | 12=>174 | 23=>214 | 24=>215 | 14=>205 | 15=>206 | 16=>207 | 17=>208 | 18=>209 | 19=>210 | 20=>211 | 21=>212 | 22=>213 | 25=>228 | 26=>229 | 27=>230 | 28=>231 | 29=>232 | 30=>233 | 31=>238 | n=>n,fun | 26=>3 | 28=>139 | 24=>37 | 0=>0 | 3=>3 | 37=>122 | 48=>275 | 50=>244 | 4=>4 | 40=>268 | 39=>267 | 45=>192 | 5=>5 | 9=>9 | 51=>282 | 55=>286 | 57=>292 | 58=>180 | 33=>90 | n=>n,fun | n=>n⟩
theorem sortedA:Go.Proofs.SlLaysZI.n6 Tryz.prog sortedA_ren:={
 mixed:=by kernel_rfl
 f6:=⟨Tryz.f74.name,by decide,Tryz.func74.trans (congrArg some (by kernel_rfl))⟩
 f8:=⟨Tryz.f130.name,by decide,Tryz.func130.trans (congrArg some (by kernel_rfl))⟩
 f11:=⟨Tryz.f173.name,by decide,Tryz.func173.trans (congrArg some (by kernel_rfl))⟩
 t0:=Tryz.underlying0
 a0:=Tryz.isAgg0
 z0:=Tryz.sizeOf0
 v0:=Tryz.zeroValue0
 t24:=Tryz.underlying37
 a24:=Tryz.isAgg37
 z24:=Tryz.sizeOf37
 v24:=Tryz.zeroValue37
 t26:=Tryz.underlying3
 a26:=Tryz.isAgg3
 z26:=Tryz.sizeOf3
 v26:=Tryz.zeroValue3
 t28:=Tryz.underlying139
 a28:=Tryz.isAgg139
 z28:=Tryz.sizeOf139
 v28:=Tryz.zeroValue139
 i26:=by kernel_rfl }
def sortA_ren:Go.Shelf.Ren:=⟨fun | 5=>131 | 8=>175 | 7=>174 | 19=>214 | 20=>215 | 10=>205 | 11=>206 | 12=>207 | 13=>208 | 14=>209 | 15=>210 | 16=>211 | 17=>212 | 18=>213 | 30=>228 | 31=>229 | 32=>230 | 33=>231 | 34=>232 | 35=>233 | 40=>238 | n=>n,fun | 23=>37 | 25=>3 | 3=>3 | 32=>122 | 22=>37 | 0=>0 | 44=>275 | 46=>244 | 4=>4 | 36=>268 | 35=>267 | 41=>192 | 5=>5 | 9=>9 | 53=>282 | 57=>286 | 63=>292 | 64=>180 | n=>n,fun | n=>n⟩
theorem sortA:Go.Proofs.SlLaysM.n5 Tryz.prog sortA_ren:={
 mixed:=by kernel_rfl
 f5:=⟨Tryz.f131.name,by decide,Tryz.func131.trans (congrArg some (by kernel_rfl))⟩
 f7:=⟨Tryz.f174.name,by decide,Tryz.func174.trans (congrArg some (by kernel_rfl))⟩
 f8:=Tryz.func175.trans (congrArg some (by kernel_rfl))
 f10:=⟨Tryz.f205.name,by decide,Tryz.func205.trans (congrArg some (by kernel_rfl))⟩
 f11:=⟨Tryz.f206.name,by decide,Tryz.func206.trans (congrArg some (by kernel_rfl))⟩
 f12:=⟨Tryz.f207.name,by decide,Tryz.func207.trans (congrArg some (by kernel_rfl))⟩
 f13:=⟨Tryz.f208.name,by decide,Tryz.func208.trans (congrArg some (by kernel_rfl))⟩
 f14:=⟨Tryz.f209.name,by decide,Tryz.func209.trans (congrArg some (by kernel_rfl))⟩
 f15:=⟨Tryz.f210.name,by decide,Tryz.func210.trans (congrArg some (by kernel_rfl))⟩
 f16:=⟨Tryz.f211.name,by decide,Tryz.func211.trans (congrArg some (by kernel_rfl))⟩
 f17:=⟨Tryz.f212.name,by decide,Tryz.func212.trans (congrArg some (by kernel_rfl))⟩
 f18:=⟨Tryz.f213.name,by decide,Tryz.func213.trans (congrArg some (by kernel_rfl))⟩
 f19:=Tryz.func214.trans (congrArg some (by kernel_rfl))
 f20:=Tryz.func215.trans (congrArg some (by kernel_rfl))
 f30:=⟨Tryz.f228.name,by decide,Tryz.func228.trans (congrArg some (by kernel_rfl))⟩
 f31:=Tryz.func229.trans (congrArg some (by kernel_rfl))
 f32:=Tryz.func230.trans (congrArg some (by kernel_rfl))
 f33:=⟨Tryz.f231.name,by decide,Tryz.func231.trans (congrArg some (by kernel_rfl))⟩
 f34:=⟨Tryz.f232.name,by decide,Tryz.func232.trans (congrArg some (by kernel_rfl))⟩
 f35:=⟨Tryz.f233.name,by decide,Tryz.func233.trans (congrArg some (by kernel_rfl))⟩
 f40:=⟨Tryz.f238.name,by decide,Tryz.func238.trans (congrArg some (by kernel_rfl))⟩
 t0:=Tryz.underlying0
 a0:=Tryz.isAgg0
 z0:=Tryz.sizeOf0
 v0:=Tryz.zeroValue0
 t3:=Tryz.underlying3
 a3:=Tryz.isAgg3
 z3:=Tryz.sizeOf3
 v3:=Tryz.zeroValue3
 t4:=Tryz.underlying4
 a4:=Tryz.isAgg4
 z4:=Tryz.sizeOf4
 v4:=Tryz.zeroValue4
 t5:=Tryz.underlying5
 a5:=Tryz.isAgg5
 z5:=Tryz.sizeOf5
 v5:=Tryz.zeroValue5
 t9:=Tryz.underlying9
 a9:=Tryz.isAgg9
 z9:=Tryz.sizeOf9
 v9:=Tryz.zeroValue9
 t22:=Tryz.underlying37
 a22:=Tryz.isAgg37
 z22:=Tryz.sizeOf37
 v22:=Tryz.zeroValue37
 t23:=Tryz.underlying37
 a23:=Tryz.isAgg37
 z23:=Tryz.sizeOf37
 v23:=Tryz.zeroValue37
 t25:=Tryz.underlying3
 a25:=Tryz.isAgg3
 z25:=Tryz.sizeOf3
 v25:=Tryz.zeroValue3
 t32:=Tryz.underlying122
 a32:=Tryz.isAgg122
 z32:=Tryz.sizeOf122
 v32:=Tryz.zeroValue122
 t35:=Tryz.underlying267
 a35:=Tryz.isAgg267
 z35:=Tryz.sizeOf267
 v35:=Tryz.zeroValue267
 t36:=Tryz.underlying268
 a36:=Tryz.isAgg268
 z36:=Tryz.sizeOf268
 v36:=Tryz.zeroValue268
 t41:=Tryz.underlying192
 a41:=Tryz.isAgg192
 z41:=Tryz.sizeOf192
 v41:=Tryz.zeroValue192
 t44:=Tryz.underlying275
 a44:=Tryz.isAgg275
 z44:=Tryz.sizeOf275
 v44:=Tryz.zeroValue275
 t46:=Tryz.underlying244
 a46:=Tryz.isAgg244
 z46:=Tryz.sizeOf244
 v46:=Tryz.zeroValue244
 t53:=Tryz.underlying282
 a53:=Tryz.isAgg282
 z53:=Tryz.sizeOf282
 v53:=Tryz.zeroValue282
 t57:=Tryz.underlying286
 a57:=Tryz.isAgg286
 z57:=Tryz.sizeOf286
 v57:=Tryz.zeroValue286
 t63:=Tryz.underlying292
 a63:=Tryz.isAgg292
 z63:=Tryz.sizeOf292
 v63:=Tryz.zeroValue292
 t64:=Tryz.underlying180
 a64:=Tryz.isAgg180
 z64:=Tryz.sizeOf180
 v64:=Tryz.zeroValue180 }
theorem sortsA(m:Nat):AnyZI.SortsIn Tryz.prog sortedA_ren Fence.wide m :=
 ⟨fun blk off cap ss W hH hblk hsz=>callsIn_wide.2 (AnyM.slices_Sort_int sortA blk off cap ss W hH hblk hsz),
 fun p cap W=>callsIn_wide.2 (AnyM.slices_Sort_int_none sortA p cap W)⟩
theorem keys_any(mb:Option Nat)(w:World):Calls Tryz.prog 203 #[.map mb] w fun e w'=>e=.returned (.func (.func 227) #[] #[.pointer (some ⟨w.heap.size,0,none⟩)])/\w'=w.alloc (.cells #[.map mb] 149) :=
 (callsIn_wide (n:=6)).1 (AnyZI.keys_in keysA Fence.wide 6 trivial rfl mb w)
theorem sorted_any(b nn:Nat)(D0:DataW H)(R:Value->Option (DataW H×List MemPlace))(w:World)(hown:w.ownsMap Tryz.prog 3 R b nn D0)(hmax:Maps.size D0<=maxLen)(hbytes:Maps.size D0 * 8<=140737488355328) :
  Calls Tryz.prog 74 #[.func (.func 227) #[] #[.pointer (some ⟨w.heap.size,0,none⟩)]] (w.alloc (.cells #[.map (some b)] 149)) fun e w'=>∃(v:Value) (ss:List Int),e=.returned v/\ss.Perm (intKeys D0) /\
   w'.ownsRow w.heap.size 3 1 v ss.length ((ss.mergeSort (fun x y=>decide (x<=y))).map encZ)/\(v=.slice none 0 0 ↔ ss=[])/\Below w.heap.size w w':=by
 have hbl:=hown.lt
 have hseq:SeqGives Fence.wide 2 Tryz.prog 227 #[.pointer (some ⟨w.heap.size,0,none⟩)] encZ (fun ss=>ss.Perm (intKeys D0)) (Maps.size D0) (w.alloc (.cells #[.map (some b)] 149)) :=
  AnyZI.keys_gives (ρ:=keysA_ren) { keysA with } Fence.wide _ trivial rfl (by omega) w.heap.size b nn D0 _ (by simp) (by simp) (by
   obtain⟨es,clock,hb,Ft,hs,hD⟩:=hown
   exact⟨es,clock,(Below.heap_alloc _ _ b hbl).trans hb,Ft,hs,hD⟩)
 have cS:=AnyZI.sorted_in sortedA Fence.wide 5 trivial trivial trivial trivial rfl (by omega) (sortsA _) (enters_of Tryz.func131 (by kernel_rfl) rfl) 227 #[.pointer (some ⟨w.heap.size,0,none⟩)] trivial (enters_of Tryz.func227 (by kernel_rfl) rfl) _ _ hmax hbytes _ hseq
 change CallsIn _ _ Tryz.prog 74 _ _ _ at cS
 refine Calls.mono ((callsIn_wide).1 cS) ?_
 rintro e w' ⟨v,ss,rfl,hS,hrow,hnil,hb⟩
 exact⟨v,ss,rfl,hS,ownsRow_base_a hrow (by simp),hnil,((Below.refl _ w).alloc (Nat.le_refl _) _).trans (hb.mono (by simp))⟩
end Go.Proofs.YtlefjidbpjkhlaaGreat
